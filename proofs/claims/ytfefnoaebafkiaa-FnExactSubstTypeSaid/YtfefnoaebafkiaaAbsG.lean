/- append. -/
import Derived.Test.YtfefnoaebafkiaaAbsF
set_option linter.unusedVariables false
set_option linter.unusedSimpArgs false
namespace Go.Abs
open Go.RowKit

theorem append_room {P : Program} {w : World} {t tx ty e el : TypeId} {i : TypeInfo} (ht : P.underlying t = some (.slice e)) (hi : P.info? e = some i) {g o sLen sCap n : Nat} {cur : Array Value} {x : Value} {news : List Value}
    (hg : w.heap[g]? = some (.cells cur el (0, 0))) (hs : Src P i.size tx x n news w) (hroom : sLen + n ≤ sCap) (hfit : o + sLen * i.size + news.length ≤ cur.size) :
    (Builtin.append_ #[t, tx] ty #[.slice (some ⟨g, o, none⟩) sLen sCap, x]).run P w =
      .ok (.slice (some ⟨g, o, none⟩) (sLen + n) sCap) (w.setRow g (cur.toList.take (o + sLen * i.size) ++ news ++ cur.toList.drop (o + sLen * i.size + news.length)).toArray) := by
  have hst := run_storeCells_at P g (o + sLen * i.size) el news 0 cur w hg (by simpa using hfit) hs.one
  simp only [Nat.add_zero] at hst
  rcases hs.kind with ⟨e', hk⟩ | hk <;> simp [Builtin.append_, run_underlying ht, run_underlying hk, sizeOf, typeInfo, hi, hs.len, hroom, hs.cells, Addr.add_lit, hst]

theorem kept_setRow {w : World} {g : Nat} {c : Array Value} : Kept (fun b => b = g) w (w.setRow g c) :=
  ⟨rfl, rfl, rfl, by simp, fun b hb hne => setRow_other w g b c hne⟩

theorem rowAt_append_left {a b : List (List AV)} {k j : Nat} (h : k < a.length) : rowAt (a ++ b) k j = rowAt a k j := by
  unfold rowAt; rw [getD_append_left h]
theorem rowAt_append_right {a b : List (List AV)} {k j : Nat} (h : a.length ≤ k) : rowAt (a ++ b) k j = rowAt b (k - a.length) j := by
  unfold rowAt; simp [List.getD, List.getElem?_append_right h]

theorem getD_arr {l : List Value} {k : Nat} : l.toArray.getD k undef = l.getD k undef := by
  simp [Array.getD, List.getD]
  by_cases h : k < l.length <;> simp [h]

/-- append to a row that is one's own, or to nil -/
theorem append_gen {P : Program} {E : AV → Bool} {tt : Option TypeId} {mk : List (List AV) → Box} {G : Ghost} {A : List Box} {w : World} {base : Nat} {t tx ty e : TypeId} {ti te : TI} {i sz s : Nat} {rows xs : List (List AV)} {y z : Value}
    (hK : RowKind E tt sz s mk) (htt : ∀ t, tt = some t → t = e) (ht : tinf P t = some ti) (hk : ti.kind = .slice e) (hte : tinf P e = some te) (hsz : te.size = sz) {zc : List AV} (hz : te.zero = some zc) (hzl : zc.length = sz) (hby : 0 < te.bytes ∧ te.bytes ≤ 65536)
    (hsrc0 : ∃ news, Src P sz tx y xs.length news w ∧ RL G w xs.flatten news ∧ (∀ r ∈ xs, ∀ v ∈ r, E v = true))
    (hb : A.getD i .dead = mk rows) (hxl : ∀ r ∈ xs, r.length = sz) (hlen : rows.length + xs.length ≤ 1073741824)
    (h : HRel G A w base) (hz' : RV G w (.own i) z) :
    YV G w base (.own A.length) (A.set i .dead ++ [mk (rows ++ xs)]) ((Builtin.append_ #[t, tx] ty #[z, y]).run P w) := by
  obtain ⟨it, d, h1, h2, h3, h4, h5, h6⟩ := tinf_spec ht
  obtain ⟨ie, de, g1, g2, g3, g4, g5, g6⟩ := tinf_spec hte
  rw [h6] at hk
  obtain rfl := tk_slice hk
  obtain ⟨news, hsrc, hnews, hleaf⟩ := hsrc0
  have hsz' : sz = ie.size := by omega
  have hil : i < A.length := by
    rcases Nat.lt_or_ge i A.length with hh | hh
    · exact hh
    · have := hK.live rows; rw [← hb] at this; simp [List.getD, Nat.not_lt.2 hh, Box.live] at this
  have hlive : (A.getD i .dead).live = true := by rw [hb]; exact hK.live _
  have hbox := h.box i hil
  rw [hb] at hbox
  obtain ⟨⟨c, el, q1, q3, q4, q5, q6, q7, q8, q9, q10, q11⟩, qt⟩ := (hK.ok _ _ _ _).1 hbox
  have hnl : news.length = xs.length * sz := by rw [← hnews.1, flat_length hxl]
  have hrall : ∀ r ∈ rows ++ xs, r.length = sz ∧ ∀ v ∈ r, E v = true := fun r hr => by
    rcases List.mem_append.1 hr with hr | hr
    · exact q9 r hr
    · exact ⟨hxl r hr, hleaf r hr⟩
  have hnew : ∀ k j, k < xs.length → j < sz → RV G w (rowAt xs k j) (news.getD (k * sz + j) undef) := fun k j hk' hj => by
    have := hnews.2 (k * sz + j) (by rw [flat_length hxl]; exact row_in hk' hj (Nat.le_refl _))
    rwa [flat_getD hxl k j hk' hj] at this
  have hlr : G.len i * sz = rows.length * sz := by rw [q4]
  cases hz' with
  | own _ hi =>
    have hcm : G.len i * sz ≤ G.cap i * sz := Nat.mul_le_mul_right _ (by omega)
    by_cases hroom : G.len i + xs.length ≤ G.cap i
    · have hfit : G.off i + G.len i * sz + news.length ≤ c.size := by
        have := Nat.mul_le_mul_right sz hroom
        rw [Nat.add_mul] at this; omega
      rw [hsz'] at hsrc
      have hrun := append_room (P := P) (ty := ty) (el := el) h2 g1 (o := G.off i) (sLen := G.len i) (sCap := G.cap i) q1 hsrc hroom (by rw [← hsz']; exact hfit)
      rw [← hsz'] at hrun
      generalize hC : (c.toList.take (G.off i + G.len i * sz) ++ news ++ c.toList.drop (G.off i + G.len i * sz + news.length)).toArray = C at hrun
      have hCsz : C.size = c.size := by
        rw [← hC]; simp; omega
      have hCold : ∀ m, m < G.off i + G.len i * sz → C.getD m undef = c.getD m undef := fun m hm => by
        rw [← hC, getD_arr, List.append_assoc, getD_append_left (by simp; omega), getD_take _ _ _ _ hm]
        simp [Array.getD, List.getD]
        by_cases hh : m < c.size <;> simp [hh]
      have hCnew : ∀ m, m < news.length → C.getD (G.off i + G.len i * sz + m) undef = news.getD m undef := fun m hm => by
        have hl : (c.toList.take (G.off i + G.len i * sz)).length = G.off i + G.len i * sz := by simp; omega
        rw [← hC, getD_arr, List.append_assoc]
        simp only [List.getD]
        rw [List.getElem?_append_right (by rw [hl]; omega), hl, List.getElem?_append_left (by omega), show G.off i + G.len i * sz + m - (G.off i + G.len i * sz) = m by omega]
      have hheap : (w.setRow (G.blk i) C).heap[G.blk i]? = some (.cells C el (0, 0)) := setRow_heap w _ c C el _ q1
      have hh := h.hand (w' := w.setRow (G.blk i) C) (mk (rows ++ xs)) (G.off i) (rows.length + xs.length) (G.cap i) sz hil hlive kept_setRow (fun o ho => by
          have hlt : o < G.off i + G.len i * sz := by
            rcases Nat.lt_or_ge o (G.off i + s * sz) with hh | hh
            · have := Nat.mul_le_mul_right sz q8; omega
            · exact absurd ho (q11 o hh)
          rw [cell?_of hheap (by omega), cell?_of q1 (by omega), hCold o hlt])
        (fun _ _ _ => ⟨_, _, hheap⟩) fun e' => by
          have hb : (G.add (G.blk i) (G.off i) (rows.length + xs.length) (G.cap i) sz).blk G.n = G.blk i := by simp [Ghost.add]
          have ho : (G.add (G.blk i) (G.off i) (rows.length + xs.length) (G.cap i) sz).off G.n = G.off i := by simp [Ghost.add]
          have hcp : (G.add (G.blk i) (G.off i) (rows.length + xs.length) (G.cap i) sz).cap G.n = G.cap i := by simp [Ghost.add]
          refine (hK.ok _ _ _ _).2 ⟨⟨C, el, by rw [hb]; exact hheap, fun y hy => ?_, by simp [Ghost.add], by rw [hcp]; simp; omega, by simp [Ghost.add], by rw [ho, hcp, hCsz]; exact q7, by simp; omega, hrall, fun k j hk' hj => ?_, fun o ho' hh => ?_⟩, fun t ht => ?_⟩
          · rw [← hC] at hy
            simp only [List.mem_toArray, List.mem_append] at hy
            rcases hy with (hy | hy) | hy
            · exact q3 y (by simpa using List.mem_of_mem_take hy)
            · exact hsrc.one y hy
            · exact q3 y (by simpa using List.mem_of_mem_drop hy)
          · rw [ho]
            simp only [List.length_append] at hk'
            by_cases hkl : k < rows.length
            · rw [rowAt_append_left hkl, hCold _ (by have := row_in hkl hj (Nat.le_of_eq q4.symm); omega)]
              exact (q10 k j hkl hj).mono e'
            · rw [rowAt_append_right (by omega)]
              have hkk : k - rows.length < xs.length := by omega
              have := hnew _ j hkk hj
              have e2 : G.off i + (k * sz + j) = G.off i + G.len i * sz + ((k - rows.length) * sz + j) := by
                rw [q4]
                have : k = rows.length + (k - rows.length) := by omega
                conv => lhs; rw [this, Nat.add_mul]
                omega
              rw [e2, hCnew _ (by rw [hnl]; exact row_in hkk hj (Nat.le_refl _))]
              exact this.mono e'
          · rw [hb] at hh; rw [ho] at ho'
            exact q11 o ho' hh
          · obtain ⟨t1, c', t2⟩ := qt t ht
            rw [q1] at t2; cases t2
            exact ⟨by rw [ho]; exact t1, C, by rw [hb]; exact hheap⟩
      refine ⟨_, _, _, hrun, ?_, hh.1, hh.2, kept_setRow.below (fun b hb => by rw [hb]; exact (h.bnd i hil hlive).1) h.low⟩
      have := RV.own (G := G.add (G.blk i) (G.off i) (rows.length + xs.length) (G.cap i) sz) (w := w.setRow (G.blk i) C) A.length (by simp [Ghost.add, h.n])
      simpa [Ghost.add, h.n, q4] using this
    · rw [g5] at hz
      obtain ⟨zz, hzz, hzrl, hzc⟩ := zeroA_ok (G := G) (w := w) hz
      have hzs : zz.cells.size = sz := by have := hzrl.1; simp at this; omega
      let olds : List Value := (List.range (G.len i * sz)).map fun m => c.getD (G.off i + m) undef
      have holds : (Builtin.firstCells ie.size (G.len i) (.slice (some ⟨G.blk i, G.off i, none⟩) (G.len i) (G.cap i))).run P w.drew = .ok olds.toArray w.drew := by
        refine run_firstCells_some w.drew _ _ _ _ _ olds (by simp [olds, hsz']) fun j v hj => ?_
        simp only [olds, List.getElem?_map, Option.map_eq_some_iff] at hj
        obtain ⟨m, hm, rfl⟩ := hj
        have hlt : j < G.len i * sz := by
          have := List.getElem?_eq_some_iff.1 hm
          simpa using this.1
        rw [List.getElem?_range hlt] at hm
        cases hm
        rw [Addr.add_lit]
        have := cell?_of q1 (o := G.off i + j) (by omega)
        simpa using this
      have hneed : (G.len i + xs.length) * ie.bytes ≤ 1073741824 * 65536 := Nat.mul_le_mul (by omega) (by omega)
      rw [hsz'] at hsrc
      have hrun := run_append_grow_src w t tx ty e ie zz h2 g1 hzz (some ⟨G.blk i, G.off i, none⟩) (G.len i) (G.cap i) olds holds y xs.length news hsrc (by omega) (by omega) (growslice_fits (by omega) (by omega))
      rw [← hsz'] at hsrc
      generalize hcp : grownCap w (G.len i + xs.length) (G.cap i) e = cap at hrun
      have hcap : G.len i + xs.length ≤ cap := by
        rw [← hcp]; simp [grownCap, Question.cut]
      generalize hC : (olds ++ news).toArray ++ Builtin.zeroCells zz.cells (cap - (G.len i + xs.length)) = C at hrun
      obtain ⟨hd, he⟩ := h.heap (w' := w.drew) rfl
      have hol : olds.length = G.len i * sz := by simp [olds]
      have hCget : ∀ m, m < (olds ++ news).length → C.getD m undef = (olds ++ news).getD m undef := fun m hm => by
        rw [← hC, Array.getD_eq_getD_getElem?, Array.getElem?_append_left (by simpa using hm)]
        simp [List.getD]
      have hk2 := (hd.kill (i := i))
      have hp := push_gen (G := G) (A := A.set i .dead) (w := w.drew) (base := base) (rows := rows ++ xs) (sz := sz) (s := s) (cap := cap) (c := C) (e := e) hK htt hk2 (fun u hu => ?_) hrall (by simp; omega) ?_ (by simp; omega) fun k j hk' hj => ?_
      · obtain ⟨G', p1, p2, p3, p4⟩ := hp
        refine ⟨_, _, G', hrun, ?_, p1, he.trans p2, (Below.refl _ _).drew.trans p4⟩
        rw [q4]
        have : (A.set i Box.dead).length = A.length := by simp
        rw [this] at p3
        simpa using p3
      · rw [← hC] at hu
        simp only [Array.mem_append, List.mem_toArray, List.mem_append] at hu
        rcases hu with (hu | hu) | hu
        · obtain ⟨m, hm, rfl⟩ := List.mem_map.1 hu
          exact q3 _ (mem_getD (by simp at hm; omega))
        · exact hsrc.one u hu
        · simp only [Builtin.zeroCells, Array.mem_map] at hu
          obtain ⟨m, hm, rfl⟩ := hu
          have hsz0 : 0 < zz.cells.size := by
            rcases Nat.eq_zero_or_pos zz.cells.size with h0 | h0
            · simp [h0] at hm
            · exact h0
          have : m % zz.cells.size < zz.cells.size := Nat.mod_lt _ hsz0
          rw [getElem!_pos zz.cells (m % zz.cells.size) this]
          exact hzc _ (Array.getElem_mem _)
      · rw [← hC]
        simp only [Array.size_append, size_zeroCells, hzs, List.size_toArray, List.length_append, hol, hnl]
        rw [← Nat.add_mul, ← Nat.add_mul, Nat.add_sub_cancel' hcap]
        exact Nat.le_refl _
      · have hlt : k * sz + j < (olds ++ news).length := by
          have := row_in hk' hj (Nat.le_refl _)
          simp only [List.length_append] at this ⊢
          rw [hol, hnl, ← Nat.add_mul, q4]; exact this
        rw [hCget _ hlt]
        simp only [List.length_append] at hk'
        by_cases hkl : k < rows.length
        · have hin : k * sz + j < G.len i * sz := row_in hkl hj (by omega)
          rw [rowAt_append_left hkl, getD_append_left (by omega)]
          have := (q10 k j hkl hj).mono he
          simpa [olds, List.getD, hin] using this
        · rw [rowAt_append_right (by omega)]
          have hkk : k - rows.length < xs.length := by omega
          have e2 : k * sz + j = G.len i * sz + ((k - rows.length) * sz + j) := by
            rw [q4]
            have : k = rows.length + (k - rows.length) := by omega
            conv => lhs; rw [this, Nat.add_mul]
            omega
          have e3 : (olds ++ news).getD (k * sz + j) undef = news.getD ((k - rows.length) * sz + j) undef := by
            rw [e2]; simp only [List.getD]; rw [List.getElem?_append_right (by omega), hol, show G.len i * sz + ((k - rows.length) * sz + j) - G.len i * sz = (k - rows.length) * sz + j by omega]
          rw [e3]; exact (hnew _ j hkk hj).mono he

theorem append_ok {P : Program} {G : Ghost} {A : List Box} {w : World} {base : Nat} {t tx ty e : TypeId} {ti te tix : TI} {i sz s : Nat} {rows xs : List (List AV)} {x : AV} {y z : Value}
    (ht : tinf P t = some ti) (hk : ti.kind = .slice e) (hte : tinf P e = some te) (hsz : te.size = sz) {zc : List AV} (hz : te.zero = some zc) (hzl : zc.length = sz) (hby : 0 < te.bytes ∧ te.bytes ≤ 65536) (htx : tinf P tx = some tix)
    (hkx : (∃ e, tix.kind = .slice e) ∨ (tix.kind = .str ∧ sz = 1)) (hs : (∃ e, tix.kind = .slice e) → ∀ s, x ≠ .str s) (hs' : tix.kind = .str → ∃ s, x = .str s)
    (hb : A.getD i .dead = .row sz rows s) (hxs : rowsOf A x = some xs) (hxl : ∀ r ∈ xs, r.length = sz) (hlen : rows.length + xs.length ≤ 1073741824)
    (h : HRel G A w base) (hx : RV G w x y) (hz' : RV G w (.own i) z) :
    YV G w base (.own A.length) (A.set i .dead ++ [.row sz (rows ++ xs) s]) ((Builtin.append_ #[t, tx] ty #[z, y]).run P w) :=
  append_gen (rowKind sz s) (fun t ht => by cases ht) ht hk hte hsz hz hzl hby (src_ok htx hkx h hx hxs hxl hs hs') hb hxl hlen h hz'

end Go.Abs
