/- What abstract types stand for in another signature, as data; both signatures read by the program. -/
import Derived.Test.YtkajklfohjcofaaGreatDoorSpFind
import Derived.Test.YtkajklfohjcofaaGreatDoorAbsW3
set_option linter.unusedVariables false
set_option linter.unusedSimpArgs false
namespace Go.Proofs.YtkajklfohjcofaaGreatDoor
open Go.Abs

/-- what an item with a key stands for -/
def findF : List VI → Ky → Option VT
  | [], _ => none
  | y :: ys, q => if viK y = q then some (meanI y) else findF ys q
theorem findF_some {ys : List VI} {q : Ky} {v : VT} (h : findF ys q = some v) : ∃ i, i < ys.length ∧ viK (ys.getD i vi0) = q ∧ meanI (ys.getD i vi0) = v := by
  induction ys with
  | nil => cases h
  | cons y ys ih =>
    rw [findF] at h
    split at h
    · rename_i hk
      cases h
      exact ⟨0, by simp, hk, rfl⟩
    · obtain ⟨i, h1, h2, h3⟩ := ih h
      exact ⟨i + 1, by simpa using h1, by simpa using h2, by simpa using h3⟩
theorem findF_none {ys : List VI} {q : Ky} (h : findF ys q = none) : ∀ i, i < ys.length → viK (ys.getD i vi0) ≠ q := by
  induction ys with
  | nil => intro i hi; simp at hi
  | cons y ys ih =>
    rw [findF] at h
    split at h
    · cases h
    · rename_i hk
      intro i hi
      cases i with
      | zero => exact hk
      | succ i => simpa using ih h i (by simpa using hi)
theorem findF_is (ys : List VI) (q : Ky) : FindO ys q (findF ys q) := by
  cases h : findF ys q with
  | none => exact findF_none h
  | some v => exact findF_some h
/-- the normal form of a signature, as it is read -/
theorem meanIs_find {s : List SigI} {zs : List VI} (h : RdN s (some zs)) {q : Ky} {o : Option VT} (hm : MeanIs s q o) : o = findF zs q :=
  meanIs_one hm (.inl ⟨zs, h, findF_is zs q⟩)

open Classical in
/-- a visit of an item that is asked for -/
noncomputable def visC (hs : List VI) (m : List (BNm × VT)) (y : VI) : Int :=
  match findF hs (viK y) with
  | none => 1
  | some f => match y with
    | .ab _ => 0
    | .al _ v => if subV m v = f then 0 else if fitI (.al [] (subV m v)) = true then 2 else 4
    | .va _ v => if subV m v = f then 0 else if fitI (.al [] (subV m v)) = true then 3 else 4
def visS (hs : List VI) (m : List (BNm × VT)) (y : VI) : List (BNm × VT) :=
  match findF hs (viK y), y with
  | some f, .ab n => m ++ [(([], n), f)]
  | _, _ => m
/-- the first item that is not offered, and its code -/
noncomputable def offC (hs : List VI) : List (BNm × VT) → List VI → Nat → Option (Nat × Ky × Int)
  | _, [], _ => none
  | m, y :: ys, i => if visC hs m y = 0 then offC hs (visS hs m y) ys (i + 1) else some (i, viK y, visC hs m y)
theorem visC_range (hs : List VI) (m : List (BNm × VT)) (y : VI) : 0 ≤ visC hs m y ∧ visC hs m y ≤ 4 := by
  unfold visC
  cases findF hs (viK y) with
  | none => simp
  | some f =>
    cases y with
    | ab n => simp
    | al n v => simp only; split <;> (try split) <;> simp
    | va n v => simp only; split <;> (try split) <;> simp

/-! ### the model's way: all that abstract types stand for, at once -/
def knownB (hs : List VI) : List VI → List (BNm × VT)
  | [] => []
  | .ab n :: ys => match findF hs (false, n) with
    | some f => (([], n), f) :: knownB hs ys
    | none => knownB hs ys
  | .al _ _ :: ys => knownB hs ys
  | .va _ _ :: ys => knownB hs ys
theorem knownB_app (hs : List VI) : ∀ a b : List VI, knownB hs (a ++ b) = knownB hs a ++ knownB hs b
  | [], b => rfl
  | .ab n :: a, b => by
    simp only [List.cons_append, knownB]
    cases findF hs (false, n) <;> simp [knownB_app hs a b]
  | .al _ _ :: a, b => by simp only [List.cons_append, knownB]; exact knownB_app hs a b
  | .va _ _ :: a, b => by simp only [List.cons_append, knownB]; exact knownB_app hs a b
theorem knownB_visS (hs : List VI) (a : List VI) (y : VI) : knownB hs (a ++ [y]) = visS hs (knownB hs a) y := by
  rw [knownB_app]
  unfold visS
  cases y with
  | ab n =>
    simp only [knownB, viK]
    cases findF hs (false, n) <;> simp
  | al n v => simp [knownB]
  | va n v => simp [knownB]
theorem knownB_names (hs : List VI) : ∀ (a : List VI), ∀ x ∈ knownB hs a, x.1.1 = [] ∧ (false, x.1.2) ∈ a.map viK
  | [], x, h => by simp [knownB] at h
  | .ab n :: a, x, h => by
    simp only [knownB] at h
    cases hf : findF hs (false, n) with
    | none =>
      rw [hf] at h
      have := knownB_names hs a x h
      exact ⟨this.1, by simp [this.2]⟩
    | some f =>
      rw [hf] at h
      rcases List.mem_cons.1 h with rfl | h
      · exact ⟨rfl, by simp [viK]⟩
      · have := knownB_names hs a x h
        exact ⟨this.1, by simp [this.2]⟩
  | .al _ _ :: a, x, h => by
    have := knownB_names hs a x (by simpa [knownB] using h)
    exact ⟨this.1, by simp [this.2]⟩
  | .va _ _ :: a, x, h => by
    have := knownB_names hs a x (by simpa [knownB] using h)
    exact ⟨this.1, by simp [this.2]⟩
theorem knownB_ok {hs : List VI} (hh : ∀ i, i < hs.length → VOk (meanI (hs.getD i vi0))) : ∀ (a : List VI), ∀ x ∈ knownB hs a, VOk x.2
  | [], x, h => by simp [knownB] at h
  | .ab n :: a, x, h => by
    simp only [knownB] at h
    cases hf : findF hs (false, n) with
    | none => rw [hf] at h; exact knownB_ok hh a x h
    | some f =>
      rw [hf] at h
      rcases List.mem_cons.1 h with rfl | h
      · obtain ⟨i, hi, _, h2⟩ := findF_some hf
        rw [← h2]; exact hh i hi
      · exact knownB_ok hh a x h
  | .al _ _ :: a, x, h => knownB_ok hh a x (by simpa [knownB] using h)
  | .va _ _ :: a, x, h => knownB_ok hh a x (by simpa [knownB] using h)
theorem lookB_app (q : BNm) : ∀ a b : List (BNm × VT), lookB q (a ++ b) = (lookB q a).orElse fun _ => lookB q b
  | [], b => by simp [lookB]
  | (p, v) :: a, b => by
    simp only [List.cons_append, lookB]
    split
    · rfl
    · exact lookB_app q a b
theorem lookB_none {q : BNm} {a : List (BNm × VT)} (h : ∀ x ∈ a, x.1 ≠ q) : lookB q a = none := by
  rcases Classical.em (lookB q a = none) with h' | h'
  · exact h'
  · obtain ⟨x, hx, hq⟩ := look_mem h'
    exact absurd hq (h x hx)
/-- what comes later does not matter -/
theorem subV_more {a b : List (BNm × VT)} {ks : List Ky} (hb : ∀ x ∈ b, x.1.1 = [] ∧ (false, x.1.2) ∉ ks) : ∀ {v : VT}, allV (okN ks) v = true → subV (a ++ b) v = subV a v
  | .num, _ => rfl
  | .nm m n, h => by
    rw [subV, subV, lookB_app]
    cases lookB (m, n) a with
    | some v => rfl
    | none =>
      have : lookB (m, n) b = none := lookB_none fun x hx e => by
        have h1 := hb x hx
        rw [e] at h1
        obtain ⟨h2, h3⟩ := h1
        have h2 : m = [] := h2
        subst h2
        simp only [allV, okN, decide_true, Bool.not_true, Bool.false_or, decide_eq_true_eq] at h
        exact h3 h
      rw [this]; rfl
  | .fn x y, h => by
    simp only [allV, Bool.and_eq_true] at h
    simp only [subV, subV_more hb h.1, subV_more hb h.2]
/-- the model's code for an item -/
theorem visC_all {hs ws : List VI} (ho : ordB ws = true) {i : Nat} (hi : i < ws.length) : visC hs (knownB hs ws) (ws.getD i vi0) = visC hs (knownB hs (ws.take i)) (ws.getD i vi0) := by
  have hs' : stepB (ws.take i) (ws.getD i vi0) = true := by
    have ho' := ho
    unfold ordB at ho'
    rw [List.all_eq_true] at ho'
    exact ho' i (List.mem_range.mpr hi)
  simp only [stepB, Bool.and_eq_true] at hs'
  have hsplit : knownB hs ws = knownB hs (ws.take i) ++ knownB hs (ws.drop i) := by rw [← knownB_app, List.take_append_drop]
  have hnew : ∀ x ∈ knownB hs (ws.drop i), x.1.1 = [] ∧ (false, x.1.2) ∉ (ws.take i).map viK := fun x hx => by
    obtain ⟨h1, h2⟩ := knownB_names hs _ x hx
    refine ⟨h1, fun h3 => ?_⟩
    obtain ⟨y, hy, hyk⟩ := List.mem_map.1 h2
    obtain ⟨z, hz, hzk⟩ := List.mem_map.1 h3
    obtain ⟨a, ha, rfl⟩ := List.mem_iff_getElem.1 hy
    obtain ⟨b, hb, rfl⟩ := List.mem_iff_getElem.1 hz
    simp only [List.length_drop, List.length_take] at ha hb
    have hne := ordB_ne ho (i := b) (j := i + a) (by omega) (by omega)
    apply hne
    have e1 : ws.getD b vi0 = (ws.take i)[b] := by simp [List.getD, show b < ws.length by omega]
    have e2 : ws.getD (i + a) vi0 = (ws.drop i)[a] := by simp [List.getD, show i + a < ws.length by omega]
    rw [e1, e2, hyk, hzk]
  rw [hsplit]
  unfold visC
  cases findF hs (viK (ws.getD i vi0)) with
  | none => rfl
  | some f =>
    cases hy : ws.getD i vi0 with
    | ab n => rfl
    | al n v => rw [hy] at hs'; simp only [allI] at hs'; have e := subV_more (a := knownB hs (ws.take i)) hnew hs'.1; dsimp only; rw [e]
    | va n v => rw [hy] at hs'; simp only [allI] at hs'; have e := subV_more (a := knownB hs (ws.take i)) hnew hs'.1; dsimp only; rw [e]
theorem offC_from (hs ws : List VI) : ∀ n i, n = ws.length - i → i ≤ ws.length → (∀ k, k < i → visC hs (knownB hs (ws.take k)) (ws.getD k vi0) = 0) → offC hs [] ws 0 = offC hs (knownB hs (ws.take i)) (ws.drop i) i
  | _, 0, _, _, _ => by simp [knownB]
  | n, i + 1, hn, hi, hk => by
    rw [offC_from hs ws (n + 1) i (by omega) (by omega) fun k h => hk k (by omega), vi_drop (show i < ws.length by omega), offC, if_pos (hk i (by omega))]
    have : visS hs (knownB hs (ws.take i)) (ws.getD i vi0) = knownB hs (ws.take (i + 1)) := by
      rw [← knownB_visS, List.take_add_one]
      congr 1
      simp [List.getD, show i < ws.length by omega]
    rw [this]
end Go.Proofs.YtkajklfohjcofaaGreatDoor

namespace Go.Proofs.YtkajklfohjcofaaGreatDoor
open Go.Abs

def absO : VI → Option (List UInt8)
  | .ab n => some n
  | _ => none
theorem absO_sub (m : List (BNm × VT)) (y : VI) : absO (subI m y) = absO y := by cases y <;> rfl
theorem absO_zs (ys : List VI) : ∀ i, i ≤ ys.length → (zsN ys i).map absO = (ys.take i).map absO
  | 0, _ => by simp [zsN]
  | i + 1, h => by
    have e : ys.take (i + 1) = ys.take i ++ [ys.getD i vi0] := by rw [List.take_add_one]; simp [List.getD, show i < ys.length by omega]
    rw [zsN_succ, List.map_append, absO_zs ys i (by omega), e]; simp [absO_sub]
/-- the bindings of the abstract types, or none -/
def mbO (hs : List VI) : List (Option (List UInt8)) → Option (List BdI)
  | [] => some []
  | none :: l => mbO hs l
  | some n :: l => match findF hs (false, n) with
    | none => none
    | some f => (mbO hs l).map (⟨[], n, toTy f⟩ :: ·)
theorem mbO_app (hs : List VI) : ∀ a b : List (Option (List UInt8)), mbO hs (a ++ b) = (mbO hs a).bind fun x => (mbO hs b).map (x ++ ·)
  | [], b => by simp [mbO]
  | none :: a, b => by simp only [List.cons_append, mbO]; exact mbO_app hs a b
  | some n :: a, b => by
    simp only [List.cons_append, mbO]
    cases findF hs (false, n) with
    | none => rfl
    | some f =>
      simp only [mbO_app hs a b]
      cases mbO hs a with
      | none => rfl
      | some x => cases mbO hs b <;> simp
theorem mbO_snoc (hs : List VI) {l : List (Option (List UInt8))} {i : Nat} (hi : i < l.length) {bs : List BdI} (h : mbO hs (l.take i) = some bs) : mbO hs (l.take (i + 1)) = (mbO hs [l.getD i none]).map (bs ++ ·) := by
  have e : l.take (i + 1) = l.take i ++ [l.getD i none] := by rw [List.take_add_one]; simp [List.getD, hi]
  rw [e, mbO_app, h]; rfl
theorem mbO_fail (hs : List VI) {l : List (Option (List UInt8))} {i : Nat} (hi : i < l.length) (h : mbO hs [l.getD i none] = none) : mbO hs l = none := by
  have e : l = l.take i ++ ([l.getD i none] ++ l.drop (i + 1)) := by
    have : l.getD i none = l[i] := by simp [List.getD, hi]
    rw [this, List.singleton_append, List.getElem_cons_drop hi, List.take_append_drop]
  rw [e, mbO_app, mbO_app, h]
  cases mbO hs (l.take i) <;> rfl
theorem mbO_ok {hs : List VI} (hh : ∀ i, i < hs.length → VOk (meanI (hs.getD i vi0))) : ∀ {l : List (Option (List UInt8))} {bs : List BdI}, mbO hs l = some bs → bs.length ≤ l.length ∧ ∀ b ∈ bs, ∃ n f, some n ∈ l ∧ VOk f ∧ b = ⟨[], n, toTy f⟩
  | [], bs, h => by cases h; exact ⟨by simp, by simp⟩
  | none :: l, bs, h => by
    obtain ⟨h1, h2⟩ := mbO_ok hh (l := l) (by simpa [mbO] using h)
    exact ⟨by simp; omega, fun b hb => by obtain ⟨n, f, h3, h4, h5⟩ := h2 b hb; exact ⟨n, f, by simp [h3], h4, h5⟩⟩
  | some n :: l, bs, h => by
    simp only [mbO] at h
    cases hf : findF hs (false, n) with
    | none => rw [hf] at h; cases h
    | some f =>
      rw [hf] at h
      obtain ⟨bs', h1, rfl⟩ := Option.map_eq_some_iff.1 h
      obtain ⟨h2, h3⟩ := mbO_ok hh h1
      refine ⟨by simp; omega, fun b hb => ?_⟩
      rcases List.mem_cons.1 hb with rfl | hb
      · obtain ⟨i, hi, _, h4⟩ := findF_some hf
        exact ⟨n, f, by simp, by rw [← h4]; exact hh i hi, rfl⟩
      · obtain ⟨n', f', h4, h5, h6⟩ := h3 b hb
        exact ⟨n', f', by simp [h4], h5, h6⟩
/-- what MatchBinds answers -/
def MbIs (a b : List SigI) (o : Option (List BdI)) : Prop :=
  (∃ hs ws, RdN a (some hs) ∧ RdN b (some ws) ∧ o = mbO hs (ws.map absO)) ∨ ((RdN a none ∨ RdN b none) ∧ o = none)
theorem mbIs_ex (a b : List SigI) : ∃ o, MbIs a b o := by
  obtain ⟨oa, ha⟩ := rdN_ex a
  obtain ⟨ob, hb⟩ := rdN_ex b
  cases oa with
  | none => exact ⟨none, .inr ⟨.inl ha, rfl⟩⟩
  | some hs =>
    cases ob with
    | none => exact ⟨none, .inr ⟨.inr hb, rfl⟩⟩
    | some ws => exact ⟨_, .inl ⟨hs, ws, ha, hb, rfl⟩⟩
theorem mbIs_one {a b : List SigI} {o o' : Option (List BdI)} (h : MbIs a b o) (h' : MbIs a b o') : o = o' := by
  rcases h with ⟨hs, ws, h1, h2, rfl⟩ | ⟨h1, rfl⟩
  · rcases h' with ⟨hs', ws', h3, h4, rfl⟩ | ⟨h3, rfl⟩
    · rw [rdN_one h1 h3, rdN_one h2 h4]
    · rcases h3 with h3 | h3
      · exact absurd h3 (rdN_not h1)
      · exact absurd h3 (rdN_not h2)
  · rcases h' with ⟨hs', ws', h3, h4, rfl⟩ | ⟨h3, rfl⟩
    · rcases h1 with h1 | h1
      · exact absurd h1 (rdN_not h3)
      · exact absurd h1 (rdN_not h4)
    · rfl

/-! ### the program -/
theorem rdN_no {s : List SigI} {ys : List VI} (h8 : s.length ≤ 8) (hr : ReadsTo s ys) (h : ordB ys = false ∨ normL [] ys = none) : RdN s none := .inr ⟨ys, h8, hr, h⟩
set_option maxRecDepth 100000 in
theorem impl_readMatch (a b : List SigI) (ha : a.length ≤ 1048576) (hoa : ∀ x ∈ a, x.Ok ∧ sz x.typ ≤ 1048576) (hb : b.length ≤ 1048576) (hob : ∀ x ∈ b, x.Ok ∧ sz x.typ ≤ 1048576) (A : List Box) :
    ACalls Tryz.prog 46 [.slice (sEs a), .slice (sEs b)] A (fun r A' => ∃ B, A' = A ++ B ∧
      ((∃ hs ws j k, RdN a (some hs) ∧ RdN b (some ws) ∧ r = .tuple [.own (A.length + j), .own (A.length + k), .int .i64 0] ∧ j < B.length ∧ k < B.length ∧ B.getD j .dead = .row 1 (vRows hs) 0 ∧ B.getD k .dead = .row 1 (vRows ws) 0) ∨
       (∃ c, ((c = 5 ∧ (sigB a = false ∨ sigB b = false)) ∨ (c = 4 ∧ sigB a = true ∧ sigB b = true)) ∧ (RdN a none ∨ RdN b none) ∧ r = .tuple [.nils, .nils, .int .i64 c]))) := by
  refine acalls_enterK (cf := cf 45 [0, 1, 4, 5, 6, 7, 8, 9, 10, 26, 42]) foll Tryz.func46 Tryz.ntmps46 (by simp [cf]) ?_
  simp only [Tryz.f46, EnterK_some, zW, zX, zD, builtinA, isLeaf, const1, ustrA, simprocAttr, ca55, ca79, cf, Tryz.results46]
  refine callO_intro (impl_readSig a ha hoa _) ?_
  rintro r A1 ⟨h1, hA⟩
  have hA := hA.symm
  subst hA
  rcases h1 with ⟨ys, h8, hr, rfl⟩ | ⟨hbad, rfl⟩
  · simp only [zW, zX, zD, builtinA, isLeaf, const1, ustrA, simprocAttr, ca55, ca79, cf, Tryz.results46]
    refine callO_intro (impl_readSig b hb hob _) ?_
    rintro r A1 ⟨h1, hA⟩
    have hA := hA.symm
    subst hA
    rcases h1 with ⟨zs, h8', hr', rfl⟩ | ⟨hbad, rfl⟩
    · cases hord : ordB ys with
      | false =>
        have hs : sigB a = false := by rw [sigB_reads h8 hr]; exact hord
        simp only [zW, zX, zD, builtinA, isLeaf, const1, ustrA, simprocAttr, ca55, ca79, cf, Tryz.results46]
        exact ⟨[], by simp, .inr ⟨5, .inl ⟨rfl, .inl hs⟩, .inl (rdN_bad hs), rfl⟩⟩
      | true =>
        cases hord' : ordB zs with
        | false =>
          have hs : sigB b = false := by rw [sigB_reads h8' hr']; exact hord'
          simp only [zW, zX, zD, builtinA, isLeaf, const1, ustrA, simprocAttr, ca55, ca79, cf, Tryz.results46]
          exact ⟨[], by simp, .inr ⟨5, .inl ⟨rfl, .inr hs⟩, .inr (rdN_bad hs), rfl⟩⟩
        | true =>
          have hsa : sigB a = true := by rw [sigB_reads h8 hr]; exact hord
          have hsb : sigB b = true := by rw [sigB_reads h8' hr']; exact hord'
          have hna := impl_normal ys (by have := hr.1; omega) (fun k hk => by
            have := hr.2 k (by rw [← hr.1]; exact hk)
            exact mean_ok this.1 this.2) hord
          have hnb := impl_normal zs (by have := hr'.1; omega) (fun k hk => by
            have := hr'.2 k (by rw [← hr'.1]; exact hk)
            exact mean_ok this.1 this.2) hord'
          simp only [zW, zX, zD, builtinA, isLeaf, const1, ustrA, simprocAttr, ca55, ca79, cf, Tryz.results46]
          refine callO_intro (hna _) ?_
          rintro r A2 ⟨B, rfl, ⟨hs, j, e, rfl, hj, hg⟩ | ⟨e, rfl⟩⟩
          · simp only [zW, zX, zD, builtinA, isLeaf, const1, ustrA, simprocAttr, ca55, ca79, cf, Tryz.results46]
            refine callO_intro (hnb _) ?_
            rintro r A3 ⟨C, rfl, ⟨ws, k, e', rfl, hk, hgk⟩ | ⟨e', rfl⟩⟩
            · simp only [zW, zX, zD, builtinA, isLeaf, const1, ustrA, simprocAttr, ca55, ca79, cf, Tryz.results46]
              refine ⟨B ++ C, by simp, .inl ⟨hs, ws, j, B.length + k, ⟨ys, h8, hr, hord, e⟩, ⟨zs, h8', hr', hord', e'⟩, ?_, by simp; omega, by simp; omega, by rw [Abs.getD_append_left hj]; exact hg, by rw [Abs.getD_append_right (by omega), Nat.add_sub_cancel_left]; exact hgk⟩⟩
              simp [Nat.add_assoc]
            · simp only [zW, zX, zD, builtinA, isLeaf, const1, ustrA, simprocAttr, ca55, ca79, cf, Tryz.results46]
              exact ⟨B ++ C, by simp, .inr ⟨4, .inr ⟨rfl, hsa, hsb⟩, .inr (rdN_no h8' hr' (.inr e')), rfl⟩⟩
          · simp only [zW, zX, zD, builtinA, isLeaf, const1, ustrA, simprocAttr, ca55, ca79, cf, Tryz.results46]
            refine callO_intro (hnb _) ?_
            rintro r A3 ⟨C, rfl, ⟨ws, k, e', rfl, hk, hgk⟩ | ⟨e', rfl⟩⟩
            · simp only [zW, zX, zD, builtinA, isLeaf, const1, ustrA, simprocAttr, ca55, ca79, cf, Tryz.results46]
              exact ⟨B ++ C, by simp, .inr ⟨4, .inr ⟨rfl, hsa, hsb⟩, .inl (rdN_no h8 hr (.inr e)), rfl⟩⟩
            · simp only [zW, zX, zD, builtinA, isLeaf, const1, ustrA, simprocAttr, ca55, ca79, cf, Tryz.results46]
              exact ⟨B ++ C, by simp, .inr ⟨4, .inr ⟨rfl, hsa, hsb⟩, .inl (rdN_no h8 hr (.inr e)), rfl⟩⟩
    · have hs := sigB_bad hbad
      cases hord : ordB ys with
      | false =>
        simp only [zW, zX, zD, builtinA, isLeaf, const1, ustrA, simprocAttr, ca55, ca79, cf, Tryz.results46]
        exact ⟨[], by simp, .inr ⟨5, .inl ⟨rfl, .inr hs⟩, .inr (rdN_bad hs), rfl⟩⟩
      | true =>
        simp only [zW, zX, zD, builtinA, isLeaf, const1, ustrA, simprocAttr, ca55, ca79, cf, Tryz.results46]
        exact ⟨[], by simp, .inr ⟨5, .inl ⟨rfl, .inr hs⟩, .inr (rdN_bad hs), rfl⟩⟩
  · have hs := sigB_bad hbad
    simp only [zW, zX, zD, builtinA, isLeaf, const1, ustrA, simprocAttr, ca55, ca79, cf, Tryz.results46]
    refine callO_intro (impl_readSig b hb hob _) ?_
    rintro r A1 ⟨h1, hA⟩
    have hA := hA.symm
    subst hA
    rcases h1 with ⟨zs, h8', hr', rfl⟩ | ⟨hbad, rfl⟩
    · simp only [zW, zX, zD, builtinA, isLeaf, const1, ustrA, simprocAttr, ca55, ca79, cf, Tryz.results46]
      exact ⟨[], by simp, .inr ⟨5, .inl ⟨rfl, .inl hs⟩, .inl (rdN_bad hs), rfl⟩⟩
    · simp only [zW, zX, zD, builtinA, isLeaf, const1, ustrA, simprocAttr, ca55, ca79, cf, Tryz.results46]
      exact ⟨[], by simp, .inr ⟨5, .inl ⟨rfl, .inl hs⟩, .inl (rdN_bad hs), rfl⟩⟩
theorem rdN_oo {s : List SigI} {o o' : Option (List VI)} (h : RdN s o) (h' : RdN s o') : o = o' := by
  cases o with
  | none =>
    cases o' with
    | none => rfl
    | some zs => exact absurd h (rdN_not h')
  | some zs =>
    cases o' with
    | none => exact absurd h' (rdN_not h)
    | some zs' => rw [rdN_one h h']
end Go.Proofs.YtkajklfohjcofaaGreatDoor
