/- One operation is what it is taken for. -/
import Derived.Test.YtfefnoaebafkiaaAbsK
set_option linter.unusedVariables false
set_option linter.unusedSimpArgs false
namespace Go.Abs
open Go.RowKit

theorem RL.two {G : Ghost} {w : World} {v u : AV} {xs : List Value} (h : RL G w [v, u] xs) : ∃ x y, xs = [x, y] ∧ RV G w v x ∧ RV G w u y := by
  match xs, h with
  | [x, y], h => exact ⟨x, y, rfl, h.head, h.tail.head⟩
  | [], h => have := h.1; simp at this
  | [_], h => have := h.1; simp at this
  | _ :: _ :: _ :: _, h => have := h.1; simp at this

theorem RL.three {G : Ghost} {w : World} {v u s : AV} {xs : List Value} (h : RL G w [v, u, s] xs) : ∃ x y z, xs = [x, y, z] ∧ RV G w v x ∧ RV G w u y ∧ RV G w s z := by
  match xs, h with
  | [x, y, z], h => exact ⟨x, y, z, rfl, h.head, h.tail.head, h.tail.tail.head⟩
  | [], h => have := h.1; simp at this
  | [_], h => have := h.1; simp at this
  | [_, _], h => have := h.1; simp at this
  | _ :: _ :: _ :: _ :: _, h => have := h.1; simp at this

theorem YN.pure {P : Program} {G : Ghost} {A : List Box} {w : World} {base : Nat} {v : AV} {x : Value} {s : Sem Next} (h : HRel G A w base) (hx : RV G w v x) (hr : s.run P w = .ok (.value x) w) : YN G w base v A (s.run P w) :=
  ⟨x, w, G, .inl hr, hx, h, Ext.refl _ _, Below.refl _ _⟩

theorem nilAhead_run {P : Program} {t : TypeId} {name : String} {g : FuncId} {v : Value} {w : World} {n : Nat} (h : methA P t name = some g) : (nilAhead (n + 1) t v name).run P w = .ok (some false) w := by
  unfold methA at h
  split at h <;> try cases h
  rename_i i d h1 h2
  split at h <;> try cases h
  rename_i m hm
  have hti : (typeInfo t).run P w = .ok i w := by simp [typeInfo, h1]
  split at h <;> try cases h
  · rename_i e hf hp
    simp [nilAhead, hti, Result.andThen, hm, hp, followBlind, hf]
  · rename_i d1 x2 x1 d0 hp0 hnp hf0
    cases d1 <;> first | (exact absurd rfl (hnp _)) | simp [nilAhead, hti, Result.andThen, hm, hp0, followBlind, hf0, run_underlying h2]

theorem builtin_ok {P : Program} {G : Ghost} {A A' : List Box} {w : World} {base : Nat} {b : Builtin} {ts : Array TypeId} {ty : TypeId} {cs : Array Bool} {vs : List AV} {xs : Array Value} {v : AV} {c : Prop}
    (hv : RL G w vs xs.toList) (hs : builtinA P b ts vs A = some (c, v, A')) (hp : c) (h : HRel G A w base) : YN G w base v A' ((builtin b ts ty cs xs).run P w) := by
  unfold builtinA at hs
  split at hs
  · rename_i x t hts
    have hts' : ts = #[t] := by apply Array.ext'; simpa using hts
    subst hts'
    obtain ⟨y, hy, hx⟩ := hv.one
    have hxs : xs = #[y] := by apply Array.ext'; simpa using hy
    subst hxs
    split at hs <;> try cases hs
    rename_i ti ht
    split at hs <;> try cases hs
    rename_i n hn
    split at hs <;> try cases hs
    rename_i hc
    have hk : (ti.kind = .str ∧ ∃ s, x = .str s) ∨ ((∃ e, ti.kind = .slice e) ∧ ∀ s, x ≠ .str s) := by
      simp only [Bool.or_eq_true] at hc
      rcases hc with hc | hc
      · rw [Bool.and_eq_true] at hc; exact .inl ⟨tkStr_spec hc.1, isStr_spec hc.2⟩
      · rw [Bool.and_eq_true] at hc; exact .inr ⟨tkSlice_spec hc.1, isStr_no (by simpa using hc.2)⟩
    exact (len_ok (ty := ty) ht hk hn h hx).next
  · rename_i s x t tx hts
    have hts' : ts = #[t, tx] := by apply Array.ext'; simpa using hts
    subst hts'
    obtain ⟨z, y, hy, hz, hx⟩ := hv.two
    have hxs : xs = #[z, y] := by apply Array.ext'; simpa using hy
    subst hxs
    split at hs <;> try cases hs
    rename_i ti tix ht htx
    split at hs <;> try cases hs
    rename_i te hte
    obtain ⟨e, he1, he2⟩ := elemOf_spec hte
    split at hs <;> try cases hs
    rename_i hc
    have hkx : ((∃ e, tix.kind = .slice e) ∨ (tix.kind = .str ∧ te.size = 1)) ∧ ((∃ e, tix.kind = .slice e) → ∀ s, x ≠ .str s) ∧ (tix.kind = .str → ∃ s, x = .str s) := by
      rw [Bool.or_eq_true] at hc
      rcases hc with hc | hc
      · simp only [Bool.and_eq_true, beq_iff_eq] at hc
        have hk := tkStr_spec hc.1.1
        exact ⟨.inr ⟨hk, hc.2⟩, (fun ⟨e, he⟩ => by rw [hk] at he; cases he), fun _ => isStr_spec hc.1.2⟩
      · simp only [Bool.and_eq_true] at hc
        obtain ⟨e', hk⟩ := tkSlice_spec hc.1
        exact ⟨.inl ⟨e', hk⟩, fun _ => isStr_no (by simpa using hc.2), fun hk' => by rw [hk] at hk'; cases hk'⟩
    unfold appendA at hs
    split at hs <;> try cases hs
    rename_i zc hzc
    have hid : elemId ti.kind = e := by rw [he1]; rfl
    rw [hid] at hs
    split at hs
    · rename_i rows hrows
      split at hs
      · rename_i i
        split at hs <;> try cases hs
        · rename_i sz rws sl hb
          obtain ⟨p1, p2, p3, p4, p5⟩ := hp
          refine (append_ok (ty := ty) ht he1 he2 p1 hzc p2 p3 htx ?_ hkx.2.1 hkx.2.2 hb hrows p4 p5 h hx hz).next
          rcases hkx.1 with h1 | ⟨h1, h2⟩
          · exact .inl h1
          · exact .inr ⟨h1, by omega⟩
        · rename_i tt sz rws hb
          obtain ⟨p0, p1, p2, p3, p4, p5⟩ := hp
          obtain ⟨news, n1, n2, n3⟩ := src_ok (P := P) (tx := tx) (sz := sz) htx (by
            rcases hkx.1 with h1 | ⟨h1, h2⟩
            · exact .inl h1
            · exact .inr ⟨h1, by omega⟩) h hx hrows p4 hkx.2.1 hkx.2.2
          exact (append_gen (ty := ty) (grKind tt sz) p0 ht he1 he2 p1 hzc p2 p3 ⟨news, n1, n2, fun r hr v hv => leaf_elem (n3 r hr v hv)⟩ hb p4 p5 h hz).next
      · split at hs
        · cases hs
          obtain ⟨p1, p2, p3, p4⟩ := hp
          exact (append_nil_ok (ty := ty) ht he1 he2 rfl hzc p1 p2 htx hkx.1 hkx.2.1 hkx.2.2 hrows p3 p4 h hx hz).next
        · cases hs
          obtain ⟨p1, p2, p3, p4⟩ := hp
          obtain ⟨news, n1, n2, n3⟩ := src_ok (P := P) (tx := tx) (sz := te.size) htx hkx.1 h hx hrows p3 hkx.2.1 hkx.2.2
          exact (append_nil_gen (ty := ty) (grKind (some e) te.size) (fun t ht => (Option.some.inj ht).symm) ht he1 he2 rfl hzc p1 p2 ⟨news, n1, n2, fun r hr v hv => leaf_elem (n3 r hr v hv)⟩ p3 p4 h hz).next
      · cases hs
    · rename_i hrn
      clear hrn
      unfold appendN at hs
      split at hs <;> try cases hs
      rename_i j
      split at hs <;> try cases hs
      rename_i tj sx xs hbj
      have hsl : ∃ e, tix.kind = .slice e := by
        rcases hkx.1 with h1 | ⟨h1, h2⟩
        · exact h1
        · obtain ⟨s, hs⟩ := hkx.2.2 h1; cases hs
      have hxl : ∀ r ∈ xs, r.length = sx := by
        cases hx with
        | own _ hi =>
          have hbx := h.box j (by rw [← h.n]; exact hi)
          rw [hbj] at hbx
          obtain ⟨⟨c, el, q1, q3, q4, q5, q6, q7, q8, q9, q10, q11⟩, _⟩ := hbx
          exact fun r hr => (q9 r hr).1
      split at hs
      · rename_i i
        split at hs <;> try cases hs
        rename_i sz rws hb
        obtain ⟨p1, p2, p3, rfl, p5⟩ := hp
        exact (append_gen (ty := ty) (grKind none sx) (fun t ht => by cases ht) ht he1 he2 p1 hzc p2 p3 (srcN_ok htx hsl h hx hbj) hb hxl p5 h hz).next
      · cases hs
        obtain ⟨p1, p2, p3, p4⟩ := hp
        subst p3
        exact (append_nil_gen (ty := ty) (grKind none te.size) (fun t ht => by cases ht) ht he1 he2 rfl hzc p1 p2 (srcN_ok htx hsl h hx hbj) hxl p4 h hz).next
      · cases hs
  · rename_i k x k' y t1 t2 hts
    cases hs
    obtain ⟨z, u, hy, hz, hx⟩ := hv.two
    have hxs : xs = #[z, u] := by apply Array.ext'; simpa using hy
    subst hxs
    cases hz; cases hx
    refine YV.next (s := Builtin.max_ ts ty #[.int k x, .int k' y]) (.same h (.int _ _) ?_)
    simp [Builtin.max_, Builtin.max2]
  · rename_i k x k' y t1 t2 hts
    cases hs
    obtain ⟨z, u, hy, hz, hx⟩ := hv.two
    have hxs : xs = #[z, u] := by apply Array.ext'; simpa using hy
    subst hxs
    cases hz; cases hx
    refine YV.next (s := Builtin.min_ ts ty #[.int k x, .int k' y]) (.same h (.int _ _) ?_)
    simp [Builtin.min_, Builtin.min2]
  · rename_i x t hts
    have hts' : ts = #[t] := by apply Array.ext'; simpa using hts
    subst hts'
    obtain ⟨y, hy, hx⟩ := hv.one
    have hxs : xs = #[y] := by apply Array.ext'; simpa using hy
    subst hxs
    exact (sdata_ok (P := P) (ts := #[t]) (ty := ty) hs hp h hx).next
  · rename_i x n pt it hts
    have hts' : ts = #[pt, it] := by apply Array.ext'; simpa using hts
    subst hts'
    obtain ⟨y, u, hy, hx, hu⟩ := hv.two
    have hxs : xs = #[y, u] := by apply Array.ext'; simpa using hy
    subst hxs
    split at hs <;> try cases hs
    rename_i tp ht
    cases hu
    exact (ustr_ok (P := P) (it := it) (ty := ty) ht hs hp h hx).next
  · cases hs

theorem map_zip {parts : Array (Nat × Operand)} {ρ : Operand → Value} : (parts.map fun (i, x) => (i, ρ x)).toList.map (·.1) = parts.toList.map (·.1) ∧
    (parts.map fun (i, x) => (i, ρ x)).toList.map (·.2) = (parts.toList.map (·.2)).map ρ := by
  simp [Function.comp_def]

theorem astep_ok {P : Program} {G : Ghost} {A A' : List Box} {w : World} {base : Nat} {o : Oper} {ρ : Operand → Value} {vs : List AV} {v : AV} {c : Prop}
    (hv : RL G w vs (o.op.operands.toList.map ρ)) (hs : astep P o.op vs A = some (c, v, A')) (hp : c) (h : HRel G A w base) : YN G w base v A' ((execOp ρ o).run P w) := by
  unfold execOp
  cases hop : o.op <;> rw [hop] at hv hs <;> simp only [Op.operands] at hv
  case move x =>
    simp only [List.map_cons, List.map_nil] at hv
    match vs, hv, hs with
    | [a], hv, hs => simp only [astep] at hs; cases hs; exact .pure h hv.head (by simp)
    | [], hv, hs => have := hv.1; simp at this
    | _ :: _ :: _, hv, hs => have := hv.1; simp at this
  case assign x =>
    simp only [List.map_cons, List.map_nil] at hv
    match vs, hv, hs with
    | [a], hv, hs => simp only [astep] at hs; cases hs; exact .pure h hv.head (by simp)
    | [], hv, hs => have := hv.1; simp at this
    | _ :: _ :: _, hv, hs => have := hv.1; simp at this
  case pick x y z =>
    simp only [List.map_cons, List.map_nil] at hv
    match vs, hv, hs with
    | [a, b, d], hv, hs =>
      simp only [astep] at hs
      split at hs <;> try cases hs
      rename_i hpk
      obtain ⟨t, ht, hr⟩ := pick_ok hpk hv.head hv.tail.head hv.tail.tail.head
      refine .pure h hr ?_
      dsimp only
      rw [ht]
      cases t <;> simp [asBool, Result.andThen]
    | [], hv, hs => have := hv.1; simp at this
    | [_], hv, hs => have := hv.1; simp at this
    | [_, _], hv, hs => have := hv.1; simp at this
    | _ :: _ :: _ :: _ :: _, hv, hs => have := hv.1; simp at this
  case alloc e =>
    match vs, hv, hs with
    | [], hv, hs =>
      simp only [astep] at hs
      split at hs <;> try cases hs
      rename_i ti ht
      split at hs <;> try cases hs
      rename_i cs hz
      split at hs <;> cases hs
      · exact (alloc_ok ht hz h).next
      · exact (alloc_tc_ok ht hz h).next
    | _ :: _, hv, hs => have := hv.1; simp at this
  case box e x =>
    simp only [List.map_cons, List.map_nil] at hv
    match vs, hv, hs with
    | [a], hv, hs =>
      simp only [astep] at hs
      split at hs <;> try cases hs
      rename_i hc
      exact (box_ok h hv.head hc).next
    | [], hv, hs => have := hv.1; simp at this
    | _ :: _ :: _, hv, hs => have := hv.1; simp at this
  case build t parts =>
    simp only [astep] at hs
    split at hs <;> try cases hs
    rename_i ti ht
    split at hs <;> try cases hs
    rename_i fs zc hk hz
    split at hs <;> try cases hs
    rename_i hnz
    split at hs <;> try cases hs
    rename_i r hf
    have hz2 := map_zip (parts := parts) (ρ := ρ)
    exact (build_ok ht hk hz hnz hf hp h (RP.ofZip hz2.1 (by rw [hz2.2]; simpa using hv))).next
  case buildSlice t len parts =>
    simp only [astep] at hs
    split at hs <;> try cases hs
    rename_i ti ht
    split at hs <;> try cases hs
    rename_i te hte
    obtain ⟨e, he1, he2⟩ := elemOf_spec hte
    have hz2 := map_zip (parts := parts) (ρ := ρ)
    split at hs <;> try cases hs
    · rename_i zc vs' A1 hz hfr
      split at hs <;> try cases hs
      rename_i hcond
      split at hs <;> try cases hs
      rename_i r hf
      obtain ⟨G1, k1, k2, k3⟩ := frzs_ok h (by simpa using hv) hfr
      exact ((buildSlice_ok ht he1 he2 hz hcond.1 hcond.2.1 hcond.2.2 hf hp k1 (RP.ofZip hz2.1 (by rw [hz2.2]; simpa using k3))).ext k2).next
    · rename_i zc hz hfr
      split at hs <;> try cases hs
      rename_i hcond
      split at hs <;> try cases hs
      rename_i r hf
      exact (buildSliceN_ok ht he1 he2 hz hcond.1 hcond.2.1 hcond.2.2 hf hp h (RP.ofZip hz2.1 (by rw [hz2.2]; simpa using hv))).next
  case load t a =>
    simp only [List.map_cons, List.map_nil] at hv
    match vs, hv, hs with
    | [a], hv, hs =>
      simp only [astep] at hs
      split at hs <;> try cases hs
      rename_i ti cs ht hc
      split at hs <;> try cases hs
      rename_i hl
      exact (load_ok ht hc hl hp h hv.head).next
    | [], hv, hs => have := hv.1; simp at this
    | _ :: _ :: _, hv, hs => have := hv.1; simp at this
  case store t a x =>
    simp only [List.map_cons, List.map_nil] at hv
    match vs, hv, hs with
    | [p, u], hv, hs =>
      simp only [astep] at hs
      split at hs <;> try cases hs
      rename_i ti ht
      split at hs <;> try cases hs
      · rename_i v' A1 hfr
        split at hs <;> try cases hs
        rename_i vs hcv
        split at hs <;> try cases hs
        rename_i hst
        have hfr' : ∃ G1, HRel G1 A1 w base ∧ Ext G w G1 w ∧ RV G1 w v' (ρ x) := by
          split at hfr
          · exact frzC_ok h hv.tail.head hfr
          · cases hfr; exact ⟨G, h, Ext.refl _ _, hv.tail.head⟩
        obtain ⟨G1, k1, k2, k3⟩ := hfr'
        obtain ⟨w', G', r1, r2, r3, r4⟩ := store_ok ht hcv hp.1 hst hp.2 k1 (hv.head.mono k2) k3
        exact ⟨undef, w', G', .inr ⟨by simp [r1, Result.andThen], rfl⟩, .bot _, r2, k2.trans r3, r4⟩
      · split at hs <;> try cases hs
        rename_i vs hcv
        split at hs <;> try cases hs
        rename_i hst
        obtain ⟨w', G', r1, r2, r3, r4⟩ := storeN_ok ht hcv hp.1 hst hp.2 h hv.head hv.tail.head
        exact ⟨undef, w', G', .inr ⟨by simp [r1, Result.andThen], rfl⟩, .bot _, r2, r3, r4⟩
    | [], hv, hs => have := hv.1; simp at this
    | [_], hv, hs => have := hv.1; simp at this
    | _ :: _ :: _ :: _, hv, hs => have := hv.1; simp at this
  case nilCheck x =>
    simp only [List.map_cons, List.map_nil] at hv
    match vs, hv, hs with
    | [a], hv, hs =>
      simp only [astep] at hs
      split at hs
      case isFalse =>
        split at hs <;> try cases hs
        rename_i hnn
        have hx := hv.head
        generalize hq : ρ x = y at hx ⊢
        cases hx <;> simp [notNil] at hnn
        case func =>
          rename_i fn first captured xs ys k1 k2 k3 k4 hip
          cases fn with
          | func g => exact .pure h (.func (.func g) first captured xs ys k1 k2 k3 k4) (by simp [hq])
          | method name =>
            match first, captured, k1, k2, k3, k4, hnn with
            | [.iface t v], [], k1, k2, k3, k4, hnn =>
              cases hnn
              have h1 := k3 0 (by simp)
              have hx0 : ∃ z, xs = #[z] := by
                match xs, k1 with
                | ⟨[z]⟩, _ => exact ⟨z, rfl⟩
                | ⟨[]⟩, h => simp at h
                | ⟨_ :: _ :: _⟩, h => simp at h
              obtain ⟨z, rfl⟩ := hx0
              have h1' : RV G w (.iface t v) z := by simpa using h1
              generalize hz : z = zz at h1'
              cases h1' with
              | iface _ _ u hw hu =>
                subst hz
                obtain ⟨g, hg⟩ := Option.isSome_iff_exists.1 (show (methA P t name).isSome = true from hp)
                have hr := nilAhead_run (P := P) (w := w) (v := u) (n := P.types.size + Made.depth - 1) hg
                have hd : P.types.size + Made.depth - 1 + 1 = P.types.size + Made.depth := by
                  have : 0 < Made.depth := by decide
                  omega
                rw [hd] at hr
                exact .pure h (.func (.method name) [.iface t v] [] _ _ k1 k2 k3 k4) (by simp [hq, Result.andThen, hr])
          | _ => simp at hnn
      rename_i hpt
      cases hs
      have hx := hv.head
      generalize hq : ρ x = y at hx ⊢
      cases hx <;> simp [isPtr] at hpt
      case ptr i o hi => exact .pure h (.ptr i o hi) (by simp [hq])
      case eptr i k j hi => exact .pure h (.eptr i k j hi) (by simp [hq])
      case vptr cs b off X hl hx hI hh => exact .pure h (.vptr cs b off X hl hx hI hh) (by simp [hq])
      case iface t v x hv' hh => exact .pure h (.iface t v x hv' hh) (by simp [hq])
    | [], hv, hs => have := hv.1; simp at this
    | _ :: _ :: _, hv, hs => have := hv.1; simp at this
  case binOp op t x y yt =>
    simp only [List.map_cons, List.map_nil] at hv
    match vs, hv, hs with
    | [a, b], hv, hs =>
      simp only [astep] at hs
      split at hs <;> try cases hs
      rename_i ti ht
      split at hs
      · rename_i hb
        cases hs
        exact (bin_ok ht hb hp h hv.head hv.tail.head).next
      · split at hs <;> try cases hs
        rename_i hb
        exact (aggEq_ok ht hb hp h hv.head hv.tail.head).next
    | [], hv, hs => have := hv.1; simp at this
    | [_], hv, hs => have := hv.1; simp at this
    | _ :: _ :: _ :: _, hv, hs => have := hv.1; simp at this
  case unOp op t x =>
    simp only [List.map_cons, List.map_nil] at hv
    match vs, hv, hs with
    | [a], hv, hs =>
      simp only [astep] at hs
      split at hs <;> try cases hs
      rename_i hu
      exact (un_ok hu h hv.head).next
    | [], hv, hs => have := hv.1; simp at this
    | _ :: _ :: _, hv, hs => have := hv.1; simp at this
  case convert s d x =>
    simp only [List.map_cons, List.map_nil] at hv
    match vs, hv, hs with
    | [a], hv, hs =>
      simp only [astep] at hs
      split at hs <;> try cases hs
      rename_i si di h1 h2
      split at hs <;> try cases hs
      rename_i hc
      exact (conv_ok h1 h2 hc hp h hv.head).next
    | [], hv, hs => have := hv.1; simp at this
    | _ :: _ :: _, hv, hs => have := hv.1; simp at this
  case makeSlice t l c =>
    simp only [List.map_cons, List.map_nil] at hv
    match vs, hv, hs with
    | [a, b], hv, hs =>
      have hx := hv.head
      have hy := hv.tail.head
      cases a <;> try (simp only [astep] at hs; cases hs; done)
      cases b <;> try (simp only [astep] at hs; cases hs; done)
      simp only [astep] at hs
      split at hs <;> try cases hs
      rename_i ti ht
      split at hs <;> try cases hs
      rename_i te hte
      obtain ⟨e, he1, he2⟩ := elemOf_spec hte
      split at hs <;> try cases hs
      rename_i zc hz
      split at hs <;> try cases hs
      rename_i hcond
      dsimp only
      generalize ρ l = y1 at hx ⊢
      generalize ρ c = y2 at hy ⊢
      cases hx; cases hy
      exact (makeSlice_ok ht he1 he2 hz hcond.1 hcond.2.1 hcond.2.2 hp.1 hp.2.1 hp.2.2 h).next
    | [], hv, hs => have := hv.1; simp at this
    | [_], hv, hs => have := hv.1; simp at this
    | _ :: _ :: _ :: _, hv, hs => have := hv.1; simp at this
  case slice t x lo hi mx =>
    cases mx with
    | some m => exfalso; revert hs; unfold astep; split <;> simp_all
    | none =>
    cases lo with
    | none =>
      cases hi with
      | none =>
        simp only [Option.toArray] at hv
        simp at hv
        match vs, hv, hs with
        | [a], hv, hs =>
          simp only [astep] at hs
          split at hs <;> try cases hs
          rename_i ti ht
          split at hs <;> try cases hs
          rename_i hk
          exact (sliceOp_ok ht hk hs hp (by simp) (by simp) (by simp) (by simp) h hv.head).next
        | [], hv, hs => have := hv.1; simp at this
        | _ :: _ :: _, hv, hs => have := hv.1; simp at this
      | some hh =>
        simp at hv
        match vs, hv, hs with
        | [a, b], hv, hs =>
          have hy := hv.tail.head
          cases b <;> try (simp only [astep] at hs; cases hs; done)
          rename_i k1 n1
          simp only [astep] at hs
          split at hs <;> try cases hs
          rename_i ti ht
          have hq : ρ hh = .int k1 n1 := by
            generalize ρ hh = q at hy ⊢
            cases hy; rfl
          split at hs
          · rename_i r hcut
            cases hs
            cases hte : elemOf? P ti.kind with
            | none => rw [hte] at hcut; unfold cutOwn at hcut; split at hcut <;> simp_all
            | some te =>
              obtain ⟨e, he1, he2⟩ := elemOf_spec hte
              rw [hte] at hcut
              have := cutOwn_ok (k := k1) ht he1 he2 hcut hp h hv.head
              rw [← hq] at this
              exact this.next
          split at hs <;> try cases hs
          rename_i hk
          refine (sliceOp_ok (lo := none) (hi := some (ρ hh)) ht hk hs hp (by simp) (by simp) (fun z hz => ?_) (by simp) h hv.head).next
          cases hz; exact ⟨k1, _, hq, rfl⟩
        | [], hv, hs => have := hv.1; simp at this
        | [_], hv, hs => have := hv.1; simp at this
        | _ :: _ :: _ :: _, hv, hs => have := hv.1; simp at this
    | some ll =>
      cases hi with
      | none =>
        simp at hv
        match vs, hv, hs with
        | [a, b], hv, hs =>
          have hy := hv.tail.head
          cases b <;> try (simp only [astep] at hs; cases hs; done)
          rename_i k1 n1
          simp only [astep] at hs
          split at hs <;> try cases hs
          rename_i ti ht
          split at hs <;> try cases hs
          rename_i hk
          have hq : ρ ll = .int k1 n1 := by
            generalize ρ ll = q at hy ⊢
            cases hy; rfl
          refine (sliceOp_ok (lo := some (ρ ll)) (hi := none) ht hk hs hp (fun z hz => ?_) (by simp) (by simp) (by simp) h hv.head).next
          cases hz; exact ⟨k1, _, hq, rfl⟩
        | [], hv, hs => have := hv.1; simp at this
        | [_], hv, hs => have := hv.1; simp at this
        | _ :: _ :: _ :: _, hv, hs => have := hv.1; simp at this
      | some hh =>
        simp at hv
        match vs, hv, hs with
        | [a, b, d], hv, hs =>
          have hy := hv.tail.head
          have hz := hv.tail.tail.head
          cases b <;> try (simp only [astep] at hs; cases hs; done)
          cases d <;> try (simp only [astep] at hs; cases hs; done)
          rename_i k1 n1 k2 n2
          simp only [astep] at hs
          split at hs <;> try cases hs
          rename_i ti ht
          split at hs <;> try cases hs
          rename_i hk
          have hq : ρ ll = .int k1 n1 := by
            generalize ρ ll = q at hy ⊢
            cases hy; rfl
          have hq2 : ρ hh = .int k2 n2 := by
            generalize ρ hh = q at hz ⊢
            cases hz; rfl
          refine (sliceOp_ok (lo := some (ρ ll)) (hi := some (ρ hh)) ht hk hs hp (fun z hz => ?_) (by simp) (fun z hz => ?_) (by simp) h hv.head).next
          · cases hz; exact ⟨k1, _, hq, rfl⟩
          · cases hz; exact ⟨k2, _, hq2, rfl⟩
        | [], hv, hs => have := hv.1; simp at this
        | [_], hv, hs => have := hv.1; simp at this
        | [_, _], hv, hs => have := hv.1; simp at this
        | _ :: _ :: _ :: _ :: _, hv, hs => have := hv.1; simp at this
  case makeInterface t x =>
    simp only [List.map_cons, List.map_nil] at hv
    match vs, hv, hs with
    | [a], hv, hs =>
      simp only [astep] at hs
      split at hs <;> try cases hs
      rename_i ti ht
      split at hs <;> try cases hs
      rename_i hki
      split at hs <;> try cases hs
      rename_i x' hfr
      obtain ⟨G1, k1, k2, k3⟩ := frzC_ok h hv.head hfr
      obtain ⟨i, d, h1, h2, h3, h4, h5, h6⟩ := tinf_spec ht
      have hd : ∀ ms, d ≠ .interface ms := fun ms e => by
        rw [h6, e] at hki; simp [tkOf, tkIface] at hki
      have hrun : (Instr.makeInterface t (ρ x)).run P w = .ok (.iface t (ρ x)) w := by
        cases d <;> first | exact absurd rfl (hd _) | simp [Instr.makeInterface, run_underlying h2, Result.andThen]
      exact YV.next ⟨_, w, G1, hrun, .iface t x' _ hp k3, k1, k2, Below.refl _ _⟩
    | [], hv, hs => have := hv.1; simp at this
    | _ :: _ :: _, hv, hs => have := hv.1; simp at this
  case fieldAddr t x k =>
    simp only [List.map_cons, List.map_nil] at hv
    match vs, hv, hs with
    | [a], hv, hs =>
      simp only [astep] at hs
      split at hs <;> try cases hs
      rename_i ti ht
      split at hs <;> try cases hs
      rename_i fs hk
      split at hs <;> try cases hs
      rename_i off ty sz hf
      split at hs <;> try cases hs
      rename_i hsz
      split at hs <;> try cases hs
      rename_i hsh
      exact (fieldAt_ok ht hk hf hsz hsh h hv.head).next
    | [], hv, hs => have := hv.1; simp at this
    | _ :: _ :: _, hv, hs => have := hv.1; simp at this
  case field t x k =>
    simp only [List.map_cons, List.map_nil] at hv
    match vs, hv, hs with
    | [a], hv, hs =>
      cases a <;> try (simp only [astep] at hs; cases hs; done)
      simp only [astep] at hs
      split at hs <;> try cases hs
      rename_i ti ht
      split at hs <;> try cases hs
      rename_i fs hk
      split at hs <;> try cases hs
      rename_i off ty sz hf
      split at hs <;> try cases hs
      rename_i tf htf
      split at hs <;> try cases hs
      rename_i hpt
      exact (field_ok ht hk hf htf hpt hp h hv.head).next
    | [], hv, hs => have := hv.1; simp at this
    | _ :: _ :: _, hv, hs => have := hv.1; simp at this
  case indexAddr t x i =>
    simp only [List.map_cons, List.map_nil] at hv
    match vs, hv, hs with
    | [a, b], hv, hs =>
      have hy := hv.tail.head
      cases b <;> try (simp only [astep] at hs; cases hs; done)
      simp only [astep] at hs
      split at hs <;> try cases hs
      rename_i ti ht
      split at hs <;> try cases hs
      rename_i te hte
      obtain ⟨e, he1, he2⟩ := elemOf_spec hte
      split at hs <;> try cases hs
      rename_i hix
      dsimp only
      generalize ρ i = q at hy ⊢
      cases hy
      exact (indexAt_ok ht he1 he2 hix hp h hv.head).next
    | [], hv, hs => have := hv.1; simp at this
    | [_], hv, hs => have := hv.1; simp at this
    | _ :: _ :: _ :: _, hv, hs => have := hv.1; simp at this
  case index t x i =>
    simp only [List.map_cons, List.map_nil] at hv
    match vs, hv, hs with
    | [a, b], hv, hs =>
      have hy := hv.tail.head
      cases a <;> try (simp only [astep] at hs; cases hs; done)
      cases b <;> try (simp only [astep] at hs; cases hs; done)
      simp only [astep] at hs
      split at hs <;> try cases hs
      rename_i ti ht
      split at hs <;> try cases hs
      rename_i hk
      dsimp only
      generalize ρ i = q at hy ⊢
      cases hy
      exact (indexStr_ok ht (tkStr_spec hk) hp h hv.head).next
    | [], hv, hs => have := hv.1; simp at this
    | [_], hv, hs => have := hv.1; simp at this
    | _ :: _ :: _ :: _, hv, hs => have := hv.1; simp at this
  case typeAssert x t u ok =>
    cases ok with
    | false => exfalso; revert hs; unfold astep; split <;> simp_all
    | true =>
      simp only [List.map_cons, List.map_nil] at hv
      match vs, hv, hs with
      | [a], hv, hs =>
        simp only [astep] at hs
        split at hs <;> try cases hs
        rename_i zc hz
        exact (assert_ok hz hs h hv.head).next
      | [], hv, hs => have := hv.1; simp at this
      | _ :: _ :: _, hv, hs => have := hv.1; simp at this
  case extract x k =>
    simp only [List.map_cons, List.map_nil] at hv
    match vs, hv, hs with
    | [a], hv, hs =>
      cases a <;> try (simp only [astep] at hs; cases hs; done)
      simp only [astep] at hs
      cases hs
      exact (extract_ok hp h hv.head).next
    | [], hv, hs => have := hv.1; simp at this
    | _ :: _ :: _, hv, hs => have := hv.1; simp at this
  case call cl =>
    obtain ⟨callee, args, ts⟩ := cl
    cases callee with
    | builtin b =>
      simp only [astep] at hs
      simp [Call.operands] at hv
      have := builtin_ok (ty := o.type) (cs := args.map fun | .const _ => true | _ => false) (xs := args.map ρ) (by simpa using hv) hs hp h
      simp [resolve, invoke, Result.andThen]
      exact this
    | value f => exfalso; revert hs; unfold astep; split <;> simp_all
    | invoke r m => exfalso; revert hs; unfold astep; split <;> simp_all
  case makeFunc fn first captured =>
    simp only [astep] at hs
    cases hs
    simp only [Array.toList_append, List.map_append] at hv
    have hl : vs.length = first.size + captured.size := by have := hv.1; simpa using this
    refine .pure h (x := .func fn (first.map ρ) (captured.map ρ)) (.func fn _ _ _ _ (by simp; omega) (by simp; omega) (fun i hi => ?_) (fun i hi => ?_)) (by simp [Instr.makeFunc])
    · simp only [List.length_take] at hi
      have := hv.2 i (by omega)
      have e1 : ((first.toList.map ρ) ++ (captured.toList.map ρ)).getD i undef = (first.map ρ).getD i undef := by
        have : i < first.size := by omega
        rw [List.getD, List.getElem?_append_left (by simpa using this)]
        simp [Array.getD, this]
      rw [e1] at this
      rw [getD_take _ _ _ _ (by omega)]; exact this
    · simp only [List.length_drop] at hi
      have := hv.2 (first.size + i) (by omega)
      have e1 : ((first.toList.map ρ) ++ (captured.toList.map ρ)).getD (first.size + i) undef = (captured.map ρ).getD i undef := by
        have h2 : i < captured.size := by omega
        simp [List.getD, Array.getD, h2]
      rw [e1] at this
      rw [getD_drop]; exact this
  case makeMap t r =>
    cases r with
    | none =>
      obtain rfl : vs = [] := by have := hv.1; simpa using this
      simp only [astep] at hs
      cases hs
      exact (makeMap_ok h).next
    | some r => exfalso; revert hs; unfold astep; split <;> simp_all
  case lookup t x ix ok =>
    simp only [List.map_cons, List.map_nil] at hv
    match vs, hv, hs with
    | [a, b], hv, hs =>
      cases ok with
      | false =>
        cases a <;> try (simp only [astep] at hs; cases hs; done)
        cases b <;> try (simp only [astep] at hs; cases hs; done)
        simp only [astep] at hs
        split at hs <;> try cases hs
        rename_i kt l n z hm
        split at hs <;> try cases hs
        rename_i es hb
        split at hs <;> try cases hs
        rename_i r hf
        exact (lookup1_ok hm hb hf hp.1 hp.2 h hv.head hv.tail.head).next
      | true =>
        cases a <;> try (simp only [astep] at hs; cases hs; done)
        cases b <;> try (simp only [astep] at hs; cases hs; done)
        simp only [astep] at hs
        split at hs <;> try cases hs
        rename_i kt l n z hm
        split at hs <;> try cases hs
        rename_i es hb
        split at hs <;> try cases hs
        rename_i r hf
        exact (lookup_ok hm hb hf hp.1 hp.2 h hv.head hv.tail.head).next
    | [], hv, hs => have := hv.1; simp at this
    | [_], hv, hs => have := hv.1; simp at this
    | _ :: _ :: _ :: _, hv, hs => have := hv.1; simp at this
  case mapUpdate t m k x =>
    simp only [List.map_cons, List.map_nil] at hv
    match vs, hv, hs with
    | [a, b, u], hv, hs =>
      cases a <;> try (simp only [astep] at hs; cases hs; done)
      cases b <;> try (simp only [astep] at hs; cases hs; done)
      simp only [astep] at hs
      split at hs <;> try cases hs
      rename_i kt l n z hm
      split at hs <;> try cases hs
      rename_i es hb
      split at hs <;> try cases hs
      rename_i r hf
      obtain ⟨w', G', r1, r2, r3, r4⟩ := mapUpdate_ok hm hb hf hp.1 hp.2 h hv.head hv.tail.head hv.tail.tail.head
      exact ⟨undef, w', G', .inr ⟨by simp [r1, Result.andThen], rfl⟩, .bot _, r2, r3, r4⟩
    | [], hv, hs => have := hv.1; simp at this
    | [_], hv, hs => have := hv.1; simp at this
    | [_, _], hv, hs => have := hv.1; simp at this
    | _ :: _ :: _ :: _ :: _, hv, hs => have := hv.1; simp at this
  all_goals (exfalso; revert hs; unfold astep; split <;> simp_all)

end Go.Abs
