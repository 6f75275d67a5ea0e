/- The program's TypeSame answers whether two types are the same tree. -/
import Derived.Test.YtapkacochknndaaGreatSameC2
import Derived.Test.YtapkacochknndaaGreatAbsW3
set_option linter.unusedVariables false
set_option linter.unusedSimpArgs false
namespace Go.Proofs.YtapkacochknndaaGreat
open Go.Abs

theorem encI_take (t : ITy) : List.take 4 (encI t) = encI t := by rw [encI_eq]; rfl
theorem encI_drop (t : ITy) : List.drop 4 (encI t) = [] := by rw [encI_eq]; rfl
theorem encI_drop3 (t : ITy) : List.drop 3 (encI t) = [kidsV t] := by rw [encI_eq]; rfl
theorem frz1_kidsV (t : ITy) (A : List Box) : frz1 (kidsV t) A = some (kidsV t, A) := by
  unfold kidsV
  cases below t <;> rfl
theorem frzL_encI (t : ITy) (A : List Box) : frzL (encI t) A = some (encI t, A) := by
  rw [encI_eq]
  unfold kidsV
  cases below t <;> rfl
theorem kids_cases (t : ITy) : (below t = none ∧ kidsV t = .slice [] ∧ (node t).2.2.2 = 0) ∨ ∃ x, below t = some x ∧ kidsV t = .islice x.b x.off (encIs x.ks) ∧ (node t).2.2.2 = x.ks.length := by
  cases h : below t with
  | none =>
    obtain ⟨k, m, n, b, o, rfl⟩ := below_none h
    exact .inl ⟨rfl, by simp [kidsV, below], by simp [node]⟩
  | some x =>
    refine .inr ⟨x, rfl, by simp [kidsV, h], ?_⟩
    obtain ⟨k, m, n, rfl⟩ := below_ks h
    rfl

def tF1 : AV := .func (.func 143) [] []
def tF2 : AV := .func (.func 144) [] []
def lab (t : ITy) : Int × List UInt8 × List UInt8 := ((node t).1, (node t).2.1, (node t).2.2.1)
def klen (t : ITy) : Nat := (node t).2.2.2
theorem node_iff (s t : ITy) : node s = node t ↔ lab s = lab t ∧ klen s = klen t := by
  simp only [lab, klen, Prod.ext_iff]
  exact ⟨fun ⟨a, b, c, d⟩ => ⟨⟨a, b, c⟩, d⟩, fun ⟨⟨a, b, c⟩, d⟩ => ⟨a, b, c, d⟩⟩

set_option maxRecDepth 100000 in
theorem tcI_kids (t : ITy) (A : List Box) : ACalls Tryz.prog 143 [.agg (encI t)] A (fun r A' => r = kidsV t ∧ A' = A) := by
  rw [encI_eq]
  rcases kids_cases t with ⟨_, e1, n1⟩ | ⟨x, _, e1, n1⟩ <;> rw [e1]
  · refine acalls_enter (cf := cf 5 [0, 1, 2]) foll Tryz.func143 Tryz.ntmps143 (by simp [cf]) ?_
    simp only [Tryz.f143, EnterK_some, zW, zX, zD, builtinA, isLeaf, const1, Nat.reduceAdd, Nat.reduceMul, Nat.reduceSub, Nat.reduceLT, Nat.reduceLeDiff, Nat.reduceEqDiff, Nat.reduceBEq, Nat.reduceBNe, reduceIte, reduceCtorEq, Int.reduceToNat, Int.reduceLT, Int.reduceLE, Int.reduceEq, Int.reduceNe, Int.reduceNeg, ustrA, ti55, ti57, cf, Tryz.results143]
  · refine acalls_enter (cf := cf 5 [0, 1, 2]) foll Tryz.func143 Tryz.ntmps143 (by simp [cf]) ?_
    simp only [Tryz.f143, EnterK_some, zW, zX, zD, builtinA, isLeaf, const1, Nat.reduceAdd, Nat.reduceMul, Nat.reduceSub, Nat.reduceLT, Nat.reduceLeDiff, Nat.reduceEqDiff, Nat.reduceBEq, Nat.reduceBNe, reduceIte, reduceCtorEq, Int.reduceToNat, Int.reduceLT, Int.reduceLE, Int.reduceEq, Int.reduceNe, Int.reduceNeg, ustrA, ti55, ti57, cf, Tryz.results143]

set_option maxRecDepth 100000 in
theorem tcI_same (s t : ITy) (A : List Box) : ACalls Tryz.prog 144 [.agg (encI s), .agg (encI t)] A (fun r A' => r = .bool (decide (lab s = lab t)) ∧ A' = A) := by
  have hd : decide (lab s = lab t) = (decide ((node s).1 = (node t).1) && (decide ((node s).2.1 = (node t).2.1) && decide ((node s).2.2.1 = (node t).2.2.1))) := by
    rw [Bool.eq_iff_iff]
    simp only [lab, decide_eq_true_eq, Bool.and_eq_true, Prod.ext_iff]
  rw [hd, encI_eq, encI_eq]
  by_cases h1 : (node s).1 = (node t).1
  · by_cases h2 : (node s).2.1 = (node t).2.1
    · refine acalls_enter (cf := cf 24 [0, 1, 2, 3, 4]) foll Tryz.func144 Tryz.ntmps144 (by simp [cf]) ?_
      simp only [Tryz.f144, EnterK_some, zW, zX, zD, builtinA, isLeaf, const1, Nat.reduceAdd, Nat.reduceMul, Nat.reduceSub, Nat.reduceLT, Nat.reduceLeDiff, Nat.reduceEqDiff, Nat.reduceBEq, Nat.reduceBNe, reduceIte, reduceCtorEq, Int.reduceToNat, Int.reduceLT, Int.reduceLE, Int.reduceEq, Int.reduceNe, Int.reduceNeg, ustrA, ti3, ti9, ti57, cf, Tryz.results144]
      simp only [zW, zX, zD, builtinA, isLeaf, const1, Nat.reduceAdd, Nat.reduceMul, Nat.reduceSub, Nat.reduceLT, Nat.reduceLeDiff, Nat.reduceEqDiff, Nat.reduceBEq, Nat.reduceBNe, reduceIte, reduceCtorEq, Int.reduceToNat, Int.reduceLT, Int.reduceLE, Int.reduceEq, Int.reduceNe, Int.reduceNeg, ustrA, ti3, ti9, ti57, cf, Tryz.results144, decide_eq_true h1, decide_eq_true h2]
    · refine acalls_enter (cf := cf 24 [0, 1, 2, 3, 4]) foll Tryz.func144 Tryz.ntmps144 (by simp [cf]) ?_
      simp only [Tryz.f144, EnterK_some, zW, zX, zD, builtinA, isLeaf, const1, Nat.reduceAdd, Nat.reduceMul, Nat.reduceSub, Nat.reduceLT, Nat.reduceLeDiff, Nat.reduceEqDiff, Nat.reduceBEq, Nat.reduceBNe, reduceIte, reduceCtorEq, Int.reduceToNat, Int.reduceLT, Int.reduceLE, Int.reduceEq, Int.reduceNe, Int.reduceNeg, ustrA, ti3, ti9, ti57, cf, Tryz.results144]
      simp only [zW, zX, zD, builtinA, isLeaf, const1, Nat.reduceAdd, Nat.reduceMul, Nat.reduceSub, Nat.reduceLT, Nat.reduceLeDiff, Nat.reduceEqDiff, Nat.reduceBEq, Nat.reduceBNe, reduceIte, reduceCtorEq, Int.reduceToNat, Int.reduceLT, Int.reduceLE, Int.reduceEq, Int.reduceNe, Int.reduceNeg, ustrA, ti3, ti9, ti57, cf, Tryz.results144, decide_eq_true h1, decide_eq_false h2]
  · refine acalls_enter (cf := cf 24 [0, 1, 2, 3, 4]) foll Tryz.func144 Tryz.ntmps144 (by simp [cf]) ?_
    simp only [Tryz.f144, EnterK_some, zW, zX, zD, builtinA, isLeaf, const1, Nat.reduceAdd, Nat.reduceMul, Nat.reduceSub, Nat.reduceLT, Nat.reduceLeDiff, Nat.reduceEqDiff, Nat.reduceBEq, Nat.reduceBNe, reduceIte, reduceCtorEq, Int.reduceToNat, Int.reduceLT, Int.reduceLE, Int.reduceEq, Int.reduceNe, Int.reduceNeg, ustrA, ti3, ti9, ti57, cf, Tryz.results144]
    simp only [zW, zX, zD, builtinA, isLeaf, const1, Nat.reduceAdd, Nat.reduceMul, Nat.reduceSub, Nat.reduceLT, Nat.reduceLeDiff, Nat.reduceEqDiff, Nat.reduceBEq, Nat.reduceBNe, reduceIte, reduceCtorEq, Int.reduceToNat, Int.reduceLT, Int.reduceLE, Int.reduceEq, Int.reduceNe, Int.reduceNeg, ustrA, ti3, ti9, ti57, cf, Tryz.results144, decide_eq_false h1]

set_option maxRecDepth 100000 in
theorem impl_join0 (i : Nat) (A : List Box) : ACalls Tryz.prog 145 [.map i, .slice [], .slice []] A (fun r A' => r = .bool false ∧ A' = A) := by
  have h0 : decide (((0 : Nat) : Int) = 0) = true := rfl
  refine acalls_enter (cf := cf 32 [0, 1, 2, 6, 7, 8, 11, 28]) foll Tryz.func145 Tryz.ntmps145 (by simp [cf]) ?_
  simp only [Tryz.f145, EnterK_some, zW, zX, zD, builtinA, isLeaf, const1, Nat.reduceAdd, Nat.reduceMul, Nat.reduceSub, Nat.reduceLT, Nat.reduceLeDiff, Nat.reduceEqDiff, Nat.reduceBEq, Nat.reduceBNe, reduceIte, reduceCtorEq, Int.reduceToNat, Int.reduceLT, Int.reduceLE, Int.reduceEq, Int.reduceNe, Int.reduceNeg, ustrA, ti3, ti55, ti57, ti174, ti218, ca158, mi174, ks218, cf, Tryz.results145]
  simp only [zW, zX, zD, builtinA, isLeaf, const1, Nat.reduceAdd, Nat.reduceMul, Nat.reduceSub, Nat.reduceLT, Nat.reduceLeDiff, Nat.reduceEqDiff, Nat.reduceBEq, Nat.reduceBNe, reduceIte, reduceCtorEq, Int.reduceToNat, Int.reduceLT, Int.reduceLE, Int.reduceEq, Int.reduceNe, Int.reduceNeg, ustrA, ti3, ti55, ti57, ti174, ti218, ca158, mi174, ks218, cf, Tryz.results145, h0]

inductive WI where
  | ini
  | pr (x y : LL)
def WI.l1 (a0 : ITy) : WI → List ITy
  | .ini => [a0]
  | .pr x _ => x.ks
def WI.l2 (b0 : ITy) : WI → List ITy
  | .ini => [b0]
  | .pr _ y => y.ks
def WI.row (a0 b0 : ITy) : WI → List AV
  | .ini => [.slice (encIs [a0]), .slice (encIs [b0])]
  | .pr x y => [.islice x.b x.off (encIs x.ks), .islice y.b y.off (encIs y.ks)]

structure SI (U : List LL) (a0 b0 : ITy) (m J : List (LL × LL)) (W : List WI) (cur : Option WI) : Prop where
  ci : CI U (Eqv J) m
  js : ∀ p ∈ J, Bis (Eqv J) p.1 p.2 ∨ WI.pr p.1 p.2 ∈ W ∨ cur = some (.pr p.1 p.2)
  ini : Near (Eqv J) a0 b0 ∨ WI.ini ∈ W ∨ cur = some .ini
  ws : ∀ x y, (WI.pr x y ∈ W ∨ cur = some (.pr x y)) → x ∈ U ∧ y ∈ U ∧ x.ks.length = y.ks.length
  er : erase a0 = erase b0 → ∀ w, (w ∈ W ∨ cur = some w) → erases (w.l1 a0) = erases (w.l2 b0)

theorem Near.mono {R R' : LL → LL → Prop} (h : ∀ x y, R x y → R' x y) {s t : ITy} (k : Near R s t) : Near R' s t :=
  ⟨k.1, k.2.imp id fun ⟨x, y, a, b, c⟩ => ⟨x, y, a, b, h _ _ c⟩⟩
theorem Bis.mono {R R' : LL → LL → Prop} (h : ∀ x y, R x y → R' x y) {x y : LL} (k : Bis R x y) : Bis R' x y :=
  ⟨k.1, fun i hi => (k.2 i hi).mono h⟩

theorem SI.pop {U : List LL} {a0 b0 : ITy} {m J : List (LL × LL)} {W : List WI} {w : WI} (h : SI U a0 b0 m J (W ++ [w]) none) : SI U a0 b0 m J W (some w) := by
  refine ⟨h.ci, fun p hp => ?_, ?_, fun x y hw => h.ws x y (.inl ?_), fun he v hv => h.er he v (.inl ?_)⟩
  · rcases h.js p hp with h | h | h
    · exact .inl h
    · rcases List.mem_append.1 h with h | h
      · exact .inr (.inl h)
      · exact .inr (.inr (by rw [List.mem_singleton.1 h]))
    · cases h
  · rcases h.ini with h | h | h
    · exact .inl h
    · rcases List.mem_append.1 h with h | h
      · exact .inr (.inl h)
      · exact .inr (.inr (by rw [List.mem_singleton.1 h]))
    · cases h
  · rcases hw with hw | hw
    · exact List.mem_append_left _ hw
    · cases hw; simp
  · rcases hv with hv | hv
    · exact List.mem_append_left _ hv
    · cases hv; simp

theorem SI.done {U : List LL} {a0 b0 : ITy} {m J : List (LL × LL)} {W : List WI} {w : WI} (h : SI U a0 b0 m J W (some w)) (hl : (w.l1 a0).length = (w.l2 b0).length)
    (hn : ∀ i, i < (w.l1 a0).length → Near (Eqv J) ((w.l1 a0).getD i it0) ((w.l2 b0).getD i it0)) : SI U a0 b0 m J W none := by
  refine ⟨h.ci, fun p hp => ?_, ?_, fun x y hw => ?_, fun he v hv => ?_⟩
  · rcases h.js p hp with h | h | h
    · exact .inl h
    · exact .inr (.inl h)
    · cases h
      exact .inl ⟨hl, hn⟩
  · rcases h.ini with h | h | h
    · exact .inl h
    · exact .inr (.inl h)
    · cases h
      exact .inl (by simpa [WI.l1, WI.l2] using hn 0 (by simp [WI.l1]))
  · rcases hw with hw | hw
    · exact h.ws x y (.inl hw)
    · cases hw
  · rcases hv with hv | hv
    · exact h.er he v (.inl hv)
    · cases hv

theorem SI.same {U : List LL} {a0 b0 : ITy} {m m' J : List (LL × LL)} {W : List WI} {c : Option WI} (h : SI U a0 b0 m J W c) (hc : CI U (Eqv J) m') : SI U a0 b0 m' J W c :=
  ⟨hc, h.js, h.ini, h.ws, h.er⟩

theorem eqv_more {J : List (LL × LL)} (q : LL × LL) : ∀ x y, Eqv J x y → Eqv (q :: J) x y := fun x y h => h.mono fun p hp => List.mem_cons_of_mem _ hp

theorem SI.more {U : List LL} {a0 b0 : ITy} {m m' J : List (LL × LL)} {W : List WI} {c : Option WI} (h : SI U a0 b0 m J W c) {x y : LL} (hx : x ∈ U) (hy : y ∈ U) (hl : x.ks.length = y.ks.length) (hc : CI U (Eqv ((x, y) :: J)) m')
    (he : erase a0 = erase b0 → erases x.ks = erases y.ks) : SI U a0 b0 m' ((x, y) :: J) (W ++ [.pr x y]) c := by
  refine ⟨hc, fun p hp => ?_, ?_, fun u v hw => ?_, fun hh v hv => ?_⟩
  · rcases List.mem_cons.1 hp with rfl | hp
    · exact .inr (.inl (by simp))
    · rcases h.js p hp with h | h | h
      · exact .inl (h.mono (eqv_more _))
      · exact .inr (.inl (List.mem_append_left _ h))
      · exact .inr (.inr h)
  · rcases h.ini with h | h | h
    · exact .inl (h.mono (eqv_more _))
    · exact .inr (.inl (List.mem_append_left _ h))
    · exact .inr (.inr h)
  · rcases hw with hw | hw
    · rcases List.mem_append.1 hw with hw | hw
      · exact h.ws u v (.inl hw)
      · have := List.mem_singleton.1 hw
        cases this
        exact ⟨hx, hy, hl⟩
    · exact h.ws u v (.inr hw)
  · rcases hv with hv | hv
    · rcases List.mem_append.1 hv with hv | hv
      · exact h.er hh v (.inl hv)
      · have := List.mem_singleton.1 hv
        subst this
        exact he hh
    · exact h.er hh v (.inr hv)

theorem SI.fin {U : List LL} {a0 b0 : ITy} {m J : List (LL × LL)} (h : SI U a0 b0 m J [] none) : erase a0 = erase b0 := by
  have hj : ∀ p ∈ J, Bis (Eqv J) p.1 p.2 := fun p hp => by
    rcases h.js p hp with h | h | h
    · exact h
    · simp at h
    · cases h
  have hi : Near (Eqv J) a0 b0 := by
    rcases h.ini with h | h | h
    · exact h
    · simp at h
    · cases h
  exact near_erase hi fun x y _ _ hr => same_all hj _ x y (Nat.le_refl _) hr

theorem erases_at {l l' : List ITy} (h : erases l = erases l') (i : Nat) : erase (l.getD i it0) = erase (l'.getD i it0) := by
  rw [erases_map, erases_map] at h
  have hl : l.length = l'.length := by have := congrArg List.length h; simpa using this
  rcases Nat.lt_or_ge i l.length with hi | hi
  · have := congrArg (fun z => z.getD i (erase it0)) h
    simpa [List.getD, hi, show i < l'.length by omega] using this
  · simp [List.getD, Nat.not_lt.2 hi, show ¬ i < l'.length by omega]
theorem erase_node {s t : ITy} (h : erase s = erase t) : node s = node t := by
  obtain ⟨k, m, n, b, o, ks⟩ := s
  obtain ⟨k', m', n', b', o', ks'⟩ := t
  rw [erase, erase] at h
  injection h with h1 h2 h3 h4
  have : ks.length = ks'.length := by
    rw [erases_map, erases_map] at h4
    have := congrArg List.length h4
    simpa using this
  simp [node, h1, h2, h3, this]
theorem erase_kids {s t : ITy} {x y : LL} (h : erase s = erase t) (hx : below s = some x) (hy : below t = some y) : erases x.ks = erases y.ks := by
  obtain ⟨k, m, n, rfl⟩ := below_ks hx
  obtain ⟨k', m', n', rfl⟩ := below_ks hy
  rw [erase, erase] at h
  injection h

theorem CI.le {U : List LL} {R : LL → LL → Prop} {m : List (LL × LL)} (h : CI U R m) : m.length ≤ U.length := by
  haveI : DecidableEq LL := fun a b => Classical.propDecidable (a = b)
  have := nodup_le (m.map (·.1)) U h.nodup fun x hx => by
    obtain ⟨p, hp, rfl⟩ := List.mem_map.1 hx
    exact (h.mem p hp).1
  simpa using this


/-- between two comparisons: what is in one class is equal -/
def ClS (U : List LL) (m : List (LL × LL)) : Prop := ∃ J, CI U (Eqv J) m ∧ ∀ p ∈ J, Bis (Eqv J) p.1 p.2
theorem SI.cls {U : List LL} {a0 b0 : ITy} {m J : List (LL × LL)} (h : SI U a0 b0 m J [] none) : ClS U m := ⟨J, h.ci, fun p hp => by
  rcases h.js p hp with h | h | h
  · exact h
  · simp at h
  · cases h⟩
theorem ClS.le {U : List LL} {m : List (LL × LL)} (h : ClS U m) : m.length ≤ U.length := by obtain ⟨J, h, _⟩ := h; exact h.le
def esLen (N a : Nat) (A : List Box) : Nat :=
  match A.getD a .dead with
  | .mapb es => N - es.length
  | _ => 0
def rowLen (A : List Box) : AV → Nat
  | .own q => match A.getD q .dead with
    | .row _ rows _ => rows.length
    | _ => 0
  | _ => 0
def muI (n : Nat) (e : Env) : Nat :=
  match Abs.look 36 e with
  | .int _ i => n - i.toNat
  | _ => 0
def muT (N a : Nat) (e : Env) (A : List Box) : Nat := 2 * esLen N a A + rowLen A (Abs.look 7 e)
end Go.Proofs.YtapkacochknndaaGreat
