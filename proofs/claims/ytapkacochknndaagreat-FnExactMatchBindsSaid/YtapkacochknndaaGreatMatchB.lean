/- What abstract types stand for in another signature: by the program and by the model. -/
import Derived.Test.YtapkacochknndaaGreatSpFind
import Derived.Test.YtapkacochknndaaGreatSigOut
import Derived.Test.YtapkacochknndaaGreatOwnBd
import Derived.Test.YtapkacochknndaaGreatAbsW3
set_option linter.unusedVariables false
set_option linter.unusedSimpArgs false
namespace Go.Proofs.YtapkacochknndaaGreat
open Go.Abs

/-- what an item with a key stands for -/
def findF : List VI → Ky → Option VT
  | [], _ => none
  | y :: ys, q => if viK y = q then some (meanI y) else findF ys q
theorem findF_some {ys : List VI} {q : Ky} {v : VT} (h : findF ys q = some v) : ∃ i, i < ys.length ∧ viK (ys.getD i vi0) = q ∧ meanI (ys.getD i vi0) = v := by
  induction ys with
  | nil => cases h
  | cons y ys ih =>
    rw [findF] at h
    split at h
    · rename_i hk
      cases h
      exact ⟨0, by simp, hk, rfl⟩
    · obtain ⟨i, h1, h2, h3⟩ := ih h
      exact ⟨i + 1, by simpa using h1, by simpa using h2, by simpa using h3⟩
theorem findF_none {ys : List VI} {q : Ky} (h : findF ys q = none) : ∀ i, i < ys.length → viK (ys.getD i vi0) ≠ q := by
  induction ys with
  | nil => intro i hi; simp at hi
  | cons y ys ih =>
    rw [findF] at h
    split at h
    · cases h
    · rename_i hk
      intro i hi
      cases i with
      | zero => exact hk
      | succ i => simpa using ih h i (by simpa using hi)
theorem findF_is (ys : List VI) (q : Ky) : FindO ys q (findF ys q) := by
  cases h : findF ys q with
  | none => exact findF_none h
  | some v => exact findF_some h
/-- the normal form of a signature, as it is read -/
theorem meanIs_find {s : List SigI} {zs : List VI} (h : RdN s (some zs)) {q : Ky} {o : Option VT} (hm : MeanIs s q o) : o = findF zs q :=
  meanIs_one hm (.inl ⟨zs, h, findF_is zs q⟩)

open Classical in
/-- a visit of an item that is asked for -/
noncomputable def visC (hs : List VI) (m : List (BNm × VT)) (y : VI) : Int :=
  match findF hs (viK y) with
  | none => 1
  | some f => match y with
    | .ab _ => 0
    | .al _ v => if subV m v = f then 0 else if fitI (.al [] (subV m v)) = true then 2 else 4
    | .va _ v => if subV m v = f then 0 else if fitI (.al [] (subV m v)) = true then 3 else 4
def visS (hs : List VI) (m : List (BNm × VT)) (y : VI) : List (BNm × VT) :=
  match findF hs (viK y), y with
  | some f, .ab n => m ++ [(([], n), f)]
  | _, _ => m
/-- the first item that is not offered, and its code -/
noncomputable def offC (hs : List VI) : List (BNm × VT) → List VI → Nat → Option (Nat × Ky × Int)
  | _, [], _ => none
  | m, y :: ys, i => if visC hs m y = 0 then offC hs (visS hs m y) ys (i + 1) else some (i, viK y, visC hs m y)
theorem visC_range (hs : List VI) (m : List (BNm × VT)) (y : VI) : 0 ≤ visC hs m y ∧ visC hs m y ≤ 4 := by
  unfold visC
  cases findF hs (viK y) with
  | none => simp
  | some f =>
    cases y with
    | ab n => simp
    | al n v => simp only; split <;> (try split) <;> simp
    | va n v => simp only; split <;> (try split) <;> simp

/-! ### the model's way: all that abstract types stand for, at once -/
def knownB (hs : List VI) : List VI → List (BNm × VT)
  | [] => []
  | .ab n :: ys => match findF hs (false, n) with
    | some f => (([], n), f) :: knownB hs ys
    | none => knownB hs ys
  | .al _ _ :: ys => knownB hs ys
  | .va _ _ :: ys => knownB hs ys
theorem knownB_app (hs : List VI) : ∀ a b : List VI, knownB hs (a ++ b) = knownB hs a ++ knownB hs b
  | [], b => rfl
  | .ab n :: a, b => by
    simp only [List.cons_append, knownB]
    cases findF hs (false, n) <;> simp [knownB_app hs a b]
  | .al _ _ :: a, b => by simp only [List.cons_append, knownB]; exact knownB_app hs a b
  | .va _ _ :: a, b => by simp only [List.cons_append, knownB]; exact knownB_app hs a b
theorem knownB_visS (hs : List VI) (a : List VI) (y : VI) : knownB hs (a ++ [y]) = visS hs (knownB hs a) y := by
  rw [knownB_app]
  unfold visS
  cases y with
  | ab n =>
    simp only [knownB, viK]
    cases findF hs (false, n) <;> simp
  | al n v => simp [knownB]
  | va n v => simp [knownB]
theorem knownB_names (hs : List VI) : ∀ (a : List VI), ∀ x ∈ knownB hs a, x.1.1 = [] ∧ (false, x.1.2) ∈ a.map viK
  | [], x, h => by simp [knownB] at h
  | .ab n :: a, x, h => by
    simp only [knownB] at h
    cases hf : findF hs (false, n) with
    | none =>
      rw [hf] at h
      have := knownB_names hs a x h
      exact ⟨this.1, by simp [this.2]⟩
    | some f =>
      rw [hf] at h
      rcases List.mem_cons.1 h with rfl | h
      · exact ⟨rfl, by simp [viK]⟩
      · have := knownB_names hs a x h
        exact ⟨this.1, by simp [this.2]⟩
  | .al _ _ :: a, x, h => by
    have := knownB_names hs a x (by simpa [knownB] using h)
    exact ⟨this.1, by simp [this.2]⟩
  | .va _ _ :: a, x, h => by
    have := knownB_names hs a x (by simpa [knownB] using h)
    exact ⟨this.1, by simp [this.2]⟩
theorem knownB_ok {hs : List VI} (hh : ∀ i, i < hs.length → VOk (meanI (hs.getD i vi0))) : ∀ (a : List VI), ∀ x ∈ knownB hs a, VOk x.2
  | [], x, h => by simp [knownB] at h
  | .ab n :: a, x, h => by
    simp only [knownB] at h
    cases hf : findF hs (false, n) with
    | none => rw [hf] at h; exact knownB_ok hh a x h
    | some f =>
      rw [hf] at h
      rcases List.mem_cons.1 h with rfl | h
      · obtain ⟨i, hi, _, h2⟩ := findF_some hf
        rw [← h2]; exact hh i hi
      · exact knownB_ok hh a x h
  | .al _ _ :: a, x, h => knownB_ok hh a x (by simpa [knownB] using h)
  | .va _ _ :: a, x, h => knownB_ok hh a x (by simpa [knownB] using h)
theorem lookB_app (q : BNm) : ∀ a b : List (BNm × VT), lookB q (a ++ b) = (lookB q a).orElse fun _ => lookB q b
  | [], b => by simp [lookB]
  | (p, v) :: a, b => by
    simp only [List.cons_append, lookB]
    split
    · rfl
    · exact lookB_app q a b
theorem lookB_none {q : BNm} {a : List (BNm × VT)} (h : ∀ x ∈ a, x.1 ≠ q) : lookB q a = none := by
  rcases Classical.em (lookB q a = none) with h' | h'
  · exact h'
  · obtain ⟨x, hx, hq⟩ := look_mem h'
    exact absurd hq (h x hx)
/-- what comes later does not matter -/
theorem subV_more {a b : List (BNm × VT)} {ks : List Ky} (hb : ∀ x ∈ b, x.1.1 = [] ∧ (false, x.1.2) ∉ ks) : ∀ {v : VT}, allV (okN ks) v = true → subV (a ++ b) v = subV a v
  | .num, _ => rfl
  | .nm m n, h => by
    rw [subV, subV, lookB_app]
    cases lookB (m, n) a with
    | some v => rfl
    | none =>
      have : lookB (m, n) b = none := lookB_none fun x hx e => by
        have h1 := hb x hx
        rw [e] at h1
        obtain ⟨h2, h3⟩ := h1
        have h2 : m = [] := h2
        subst h2
        simp only [allV, okN, decide_true, Bool.not_true, Bool.false_or, decide_eq_true_eq] at h
        exact h3 h
      rw [this]; rfl
  | .fn x y, h => by
    simp only [allV, Bool.and_eq_true] at h
    simp only [subV, subV_more hb h.1, subV_more hb h.2]
/-- the model's code for an item -/
theorem visC_all {hs ws : List VI} (ho : ordB ws = true) {i : Nat} (hi : i < ws.length) : visC hs (knownB hs ws) (ws.getD i vi0) = visC hs (knownB hs (ws.take i)) (ws.getD i vi0) := by
  have hs' : stepB (ws.take i) (ws.getD i vi0) = true := by
    have ho' := ho
    unfold ordB at ho'
    rw [List.all_eq_true] at ho'
    exact ho' i (List.mem_range.mpr hi)
  simp only [stepB, Bool.and_eq_true] at hs'
  have hsplit : knownB hs ws = knownB hs (ws.take i) ++ knownB hs (ws.drop i) := by rw [← knownB_app, List.take_append_drop]
  have hnew : ∀ x ∈ knownB hs (ws.drop i), x.1.1 = [] ∧ (false, x.1.2) ∉ (ws.take i).map viK := fun x hx => by
    obtain ⟨h1, h2⟩ := knownB_names hs _ x hx
    refine ⟨h1, fun h3 => ?_⟩
    obtain ⟨y, hy, hyk⟩ := List.mem_map.1 h2
    obtain ⟨z, hz, hzk⟩ := List.mem_map.1 h3
    obtain ⟨a, ha, rfl⟩ := List.mem_iff_getElem.1 hy
    obtain ⟨b, hb, rfl⟩ := List.mem_iff_getElem.1 hz
    simp only [List.length_drop, List.length_take] at ha hb
    have hne := ordB_ne ho (i := b) (j := i + a) (by omega) (by omega)
    apply hne
    have e1 : ws.getD b vi0 = (ws.take i)[b] := by simp [List.getD, show b < ws.length by omega]
    have e2 : ws.getD (i + a) vi0 = (ws.drop i)[a] := by simp [List.getD, show i + a < ws.length by omega]
    rw [e1, e2, hyk, hzk]
  rw [hsplit]
  unfold visC
  cases findF hs (viK (ws.getD i vi0)) with
  | none => rfl
  | some f =>
    cases hy : ws.getD i vi0 with
    | ab n => rfl
    | al n v => rw [hy] at hs'; simp only [allI] at hs'; have e := subV_more (a := knownB hs (ws.take i)) hnew hs'.1; dsimp only; rw [e]
    | va n v => rw [hy] at hs'; simp only [allI] at hs'; have e := subV_more (a := knownB hs (ws.take i)) hnew hs'.1; dsimp only; rw [e]
theorem offC_from (hs ws : List VI) : ∀ n i, n = ws.length - i → i ≤ ws.length → (∀ k, k < i → visC hs (knownB hs (ws.take k)) (ws.getD k vi0) = 0) → offC hs [] ws 0 = offC hs (knownB hs (ws.take i)) (ws.drop i) i
  | _, 0, _, _, _ => by simp [knownB]
  | n, i + 1, hn, hi, hk => by
    rw [offC_from hs ws (n + 1) i (by omega) (by omega) fun k h => hk k (by omega), vi_drop (show i < ws.length by omega), offC, if_pos (hk i (by omega))]
    have : visS hs (knownB hs (ws.take i)) (ws.getD i vi0) = knownB hs (ws.take (i + 1)) := by
      rw [← knownB_visS, List.take_add_one]
      congr 1
      simp [List.getD, show i < ws.length by omega]
    rw [this]
end Go.Proofs.YtapkacochknndaaGreat

namespace Go.Proofs.YtapkacochknndaaGreat
open Go.Abs

def absO : VI → Option (List UInt8)
  | .ab n => some n
  | _ => none
theorem absO_sub (m : List (BNm × VT)) (y : VI) : absO (subI m y) = absO y := by cases y <;> rfl
theorem absO_zs (ys : List VI) : ∀ i, i ≤ ys.length → (zsN ys i).map absO = (ys.take i).map absO
  | 0, _ => by simp [zsN]
  | i + 1, h => by
    have e : ys.take (i + 1) = ys.take i ++ [ys.getD i vi0] := by rw [List.take_add_one]; simp [List.getD, show i < ys.length by omega]
    rw [zsN_succ, List.map_append, absO_zs ys i (by omega), e]; simp [absO_sub]
/-- the bindings of the abstract types, or none -/
def mbO (hs : List VI) : List (Option (List UInt8)) → Option (List BdI)
  | [] => some []
  | none :: l => mbO hs l
  | some n :: l => match findF hs (false, n) with
    | none => none
    | some f => (mbO hs l).map (⟨[], n, toTy f⟩ :: ·)
theorem mbO_app (hs : List VI) : ∀ a b : List (Option (List UInt8)), mbO hs (a ++ b) = (mbO hs a).bind fun x => (mbO hs b).map (x ++ ·)
  | [], b => by simp [mbO]
  | none :: a, b => by simp only [List.cons_append, mbO]; exact mbO_app hs a b
  | some n :: a, b => by
    simp only [List.cons_append, mbO]
    cases findF hs (false, n) with
    | none => rfl
    | some f =>
      simp only [mbO_app hs a b]
      cases mbO hs a with
      | none => rfl
      | some x => cases mbO hs b <;> simp
theorem mbO_snoc (hs : List VI) {l : List (Option (List UInt8))} {i : Nat} (hi : i < l.length) {bs : List BdI} (h : mbO hs (l.take i) = some bs) : mbO hs (l.take (i + 1)) = (mbO hs [l.getD i none]).map (bs ++ ·) := by
  have e : l.take (i + 1) = l.take i ++ [l.getD i none] := by rw [List.take_add_one]; simp [List.getD, hi]
  rw [e, mbO_app, h]; rfl
theorem mbO_fail (hs : List VI) {l : List (Option (List UInt8))} {i : Nat} (hi : i < l.length) (h : mbO hs [l.getD i none] = none) : mbO hs l = none := by
  have e : l = l.take i ++ ([l.getD i none] ++ l.drop (i + 1)) := by
    have : l.getD i none = l[i] := by simp [List.getD, hi]
    rw [this, List.singleton_append, List.getElem_cons_drop hi, List.take_append_drop]
  rw [e, mbO_app, mbO_app, h]
  cases mbO hs (l.take i) <;> rfl
theorem mbO_ok {hs : List VI} (hh : ∀ i, i < hs.length → VOk (meanI (hs.getD i vi0))) : ∀ {l : List (Option (List UInt8))} {bs : List BdI}, mbO hs l = some bs → bs.length ≤ l.length ∧ ∀ b ∈ bs, ∃ n f, some n ∈ l ∧ VOk f ∧ b = ⟨[], n, toTy f⟩
  | [], bs, h => by cases h; exact ⟨by simp, by simp⟩
  | none :: l, bs, h => by
    obtain ⟨h1, h2⟩ := mbO_ok hh (l := l) (by simpa [mbO] using h)
    exact ⟨by simp; omega, fun b hb => by obtain ⟨n, f, h3, h4, h5⟩ := h2 b hb; exact ⟨n, f, by simp [h3], h4, h5⟩⟩
  | some n :: l, bs, h => by
    simp only [mbO] at h
    cases hf : findF hs (false, n) with
    | none => rw [hf] at h; cases h
    | some f =>
      rw [hf] at h
      obtain ⟨bs', h1, rfl⟩ := Option.map_eq_some_iff.1 h
      obtain ⟨h2, h3⟩ := mbO_ok hh h1
      refine ⟨by simp; omega, fun b hb => ?_⟩
      rcases List.mem_cons.1 hb with rfl | hb
      · obtain ⟨i, hi, _, h4⟩ := findF_some hf
        exact ⟨n, f, by simp, by rw [← h4]; exact hh i hi, rfl⟩
      · obtain ⟨n', f', h4, h5, h6⟩ := h3 b hb
        exact ⟨n', f', by simp [h4], h5, h6⟩
/-- what MatchBinds answers -/
def MbIs (a b : List SigI) (o : Option (List BdI)) : Prop :=
  (∃ hs ws, RdN a (some hs) ∧ RdN b (some ws) ∧ o = mbO hs (ws.map absO)) ∨ ((RdN a none ∨ RdN b none) ∧ o = none)
theorem mbIs_ex (a b : List SigI) : ∃ o, MbIs a b o := by
  obtain ⟨oa, ha⟩ := rdN_ex a
  obtain ⟨ob, hb⟩ := rdN_ex b
  cases oa with
  | none => exact ⟨none, .inr ⟨.inl ha, rfl⟩⟩
  | some hs =>
    cases ob with
    | none => exact ⟨none, .inr ⟨.inr hb, rfl⟩⟩
    | some ws => exact ⟨_, .inl ⟨hs, ws, ha, hb, rfl⟩⟩
theorem mbIs_one {a b : List SigI} {o o' : Option (List BdI)} (h : MbIs a b o) (h' : MbIs a b o') : o = o' := by
  rcases h with ⟨hs, ws, h1, h2, rfl⟩ | ⟨h1, rfl⟩
  · rcases h' with ⟨hs', ws', h3, h4, rfl⟩ | ⟨h3, rfl⟩
    · rw [rdN_one h1 h3, rdN_one h2 h4]
    · rcases h3 with h3 | h3
      · exact absurd h3 (rdN_not h1)
      · exact absurd h3 (rdN_not h2)
  · rcases h' with ⟨hs', ws', h3, h4, rfl⟩ | ⟨h3, rfl⟩
    · rcases h1 with h1 | h1
      · exact absurd h1 (rdN_not h3)
      · exact absurd h1 (rdN_not h4)
    · rfl

/-! ### the program -/
theorem rdN_no {s : List SigI} {ys : List VI} (h8 : s.length ≤ 8) (hr : ReadsTo s ys) (h : ordB ys = false ∨ normL [] ys = none) : RdN s none := .inr ⟨ys, h8, hr, h⟩
set_option maxRecDepth 100000 in
theorem impl_readMatch (a b : List SigI) (ha : a.length ≤ 1048576) (hoa : ∀ x ∈ a, x.Ok ∧ sz x.typ ≤ 1048576) (hb : b.length ≤ 1048576) (hob : ∀ x ∈ b, x.Ok ∧ sz x.typ ≤ 1048576) (A : List Box) :
    ACalls Tryz.prog 58 [.slice (sEs a), .slice (sEs b)] A (fun r A' => ∃ B, A' = A ++ B ∧
      ((∃ hs ws j k, RdN a (some hs) ∧ RdN b (some ws) ∧ r = .tuple [.own (A.length + j), .own (A.length + k), .int .i64 0] ∧ j < B.length ∧ k < B.length ∧ B.getD j .dead = .row 1 (vRows hs) 0 ∧ B.getD k .dead = .row 1 (vRows ws) 0) ∨
       (∃ c, ((c = 5 ∧ (sigB a = false ∨ sigB b = false)) ∨ (c = 4 ∧ sigB a = true ∧ sigB b = true)) ∧ (RdN a none ∨ RdN b none) ∧ r = .tuple [.nils, .nils, .int .i64 c]))) := by
  refine acalls_enterK (cf := cf 45 [0, 1, 4, 5, 6, 7, 8, 9, 10, 26, 42]) foll Tryz.func58 Tryz.ntmps58 (by simp [cf]) ?_
  simp only [Tryz.f58, EnterK_some, zW, zX, zD, builtinA, isLeaf, const1, ustrA, simprocAttr, ca38, ca88, cf, Tryz.results58]
  refine callO_intro (impl_readSig a ha hoa _) ?_
  rintro r A1 ⟨h1, hA⟩
  have hA := hA.symm
  subst hA
  rcases h1 with ⟨ys, h8, hr, rfl⟩ | ⟨hbad, rfl⟩
  · simp only [zW, zX, zD, builtinA, isLeaf, const1, ustrA, simprocAttr, ca38, ca88, cf, Tryz.results58]
    refine callO_intro (impl_readSig b hb hob _) ?_
    rintro r A1 ⟨h1, hA⟩
    have hA := hA.symm
    subst hA
    rcases h1 with ⟨zs, h8', hr', rfl⟩ | ⟨hbad, rfl⟩
    · cases hord : ordB ys with
      | false =>
        have hs : sigB a = false := by rw [sigB_reads h8 hr]; exact hord
        simp only [zW, zX, zD, builtinA, isLeaf, const1, ustrA, simprocAttr, ca38, ca88, cf, Tryz.results58]
        exact ⟨[], by simp, .inr ⟨5, .inl ⟨rfl, .inl hs⟩, .inl (rdN_bad hs), rfl⟩⟩
      | true =>
        cases hord' : ordB zs with
        | false =>
          have hs : sigB b = false := by rw [sigB_reads h8' hr']; exact hord'
          simp only [zW, zX, zD, builtinA, isLeaf, const1, ustrA, simprocAttr, ca38, ca88, cf, Tryz.results58]
          exact ⟨[], by simp, .inr ⟨5, .inl ⟨rfl, .inr hs⟩, .inr (rdN_bad hs), rfl⟩⟩
        | true =>
          have hsa : sigB a = true := by rw [sigB_reads h8 hr]; exact hord
          have hsb : sigB b = true := by rw [sigB_reads h8' hr']; exact hord'
          have hna := impl_normal ys (by have := hr.1; omega) (fun k hk => by
            have := hr.2 k (by rw [← hr.1]; exact hk)
            exact mean_ok this.1 this.2) hord
          have hnb := impl_normal zs (by have := hr'.1; omega) (fun k hk => by
            have := hr'.2 k (by rw [← hr'.1]; exact hk)
            exact mean_ok this.1 this.2) hord'
          simp only [zW, zX, zD, builtinA, isLeaf, const1, ustrA, simprocAttr, ca38, ca88, cf, Tryz.results58]
          refine callO_intro (hna _) ?_
          rintro r A2 ⟨B, rfl, ⟨hs, j, e, rfl, hj, hg⟩ | ⟨e, rfl⟩⟩
          · simp only [zW, zX, zD, builtinA, isLeaf, const1, ustrA, simprocAttr, ca38, ca88, cf, Tryz.results58]
            refine callO_intro (hnb _) ?_
            rintro r A3 ⟨C, rfl, ⟨ws, k, e', rfl, hk, hgk⟩ | ⟨e', rfl⟩⟩
            · simp only [zW, zX, zD, builtinA, isLeaf, const1, ustrA, simprocAttr, ca38, ca88, cf, Tryz.results58]
              refine ⟨B ++ C, by simp, .inl ⟨hs, ws, j, B.length + k, ⟨ys, h8, hr, hord, e⟩, ⟨zs, h8', hr', hord', e'⟩, ?_, by simp; omega, by simp; omega, by rw [Abs.getD_append_left hj]; exact hg, by rw [Abs.getD_append_right (by omega), Nat.add_sub_cancel_left]; exact hgk⟩⟩
              simp [Nat.add_assoc]
            · simp only [zW, zX, zD, builtinA, isLeaf, const1, ustrA, simprocAttr, ca38, ca88, cf, Tryz.results58]
              exact ⟨B ++ C, by simp, .inr ⟨4, .inr ⟨rfl, hsa, hsb⟩, .inr (rdN_no h8' hr' (.inr e')), rfl⟩⟩
          · simp only [zW, zX, zD, builtinA, isLeaf, const1, ustrA, simprocAttr, ca38, ca88, cf, Tryz.results58]
            refine callO_intro (hnb _) ?_
            rintro r A3 ⟨C, rfl, ⟨ws, k, e', rfl, hk, hgk⟩ | ⟨e', rfl⟩⟩
            · simp only [zW, zX, zD, builtinA, isLeaf, const1, ustrA, simprocAttr, ca38, ca88, cf, Tryz.results58]
              exact ⟨B ++ C, by simp, .inr ⟨4, .inr ⟨rfl, hsa, hsb⟩, .inl (rdN_no h8 hr (.inr e)), rfl⟩⟩
            · simp only [zW, zX, zD, builtinA, isLeaf, const1, ustrA, simprocAttr, ca38, ca88, cf, Tryz.results58]
              exact ⟨B ++ C, by simp, .inr ⟨4, .inr ⟨rfl, hsa, hsb⟩, .inl (rdN_no h8 hr (.inr e)), rfl⟩⟩
    · have hs := sigB_bad hbad
      cases hord : ordB ys with
      | false =>
        simp only [zW, zX, zD, builtinA, isLeaf, const1, ustrA, simprocAttr, ca38, ca88, cf, Tryz.results58]
        exact ⟨[], by simp, .inr ⟨5, .inl ⟨rfl, .inr hs⟩, .inr (rdN_bad hs), rfl⟩⟩
      | true =>
        simp only [zW, zX, zD, builtinA, isLeaf, const1, ustrA, simprocAttr, ca38, ca88, cf, Tryz.results58]
        exact ⟨[], by simp, .inr ⟨5, .inl ⟨rfl, .inr hs⟩, .inr (rdN_bad hs), rfl⟩⟩
  · have hs := sigB_bad hbad
    simp only [zW, zX, zD, builtinA, isLeaf, const1, ustrA, simprocAttr, ca38, ca88, cf, Tryz.results58]
    refine callO_intro (impl_readSig b hb hob _) ?_
    rintro r A1 ⟨h1, hA⟩
    have hA := hA.symm
    subst hA
    rcases h1 with ⟨zs, h8', hr', rfl⟩ | ⟨hbad, rfl⟩
    · simp only [zW, zX, zD, builtinA, isLeaf, const1, ustrA, simprocAttr, ca38, ca88, cf, Tryz.results58]
      exact ⟨[], by simp, .inr ⟨5, .inl ⟨rfl, .inl hs⟩, .inl (rdN_bad hs), rfl⟩⟩
    · simp only [zW, zX, zD, builtinA, isLeaf, const1, ustrA, simprocAttr, ca38, ca88, cf, Tryz.results58]
      exact ⟨[], by simp, .inr ⟨5, .inl ⟨rfl, .inl hs⟩, .inl (rdN_bad hs), rfl⟩⟩
/-! ### the program's list -/
/-- bindings that were collected -/
def BSt (A0 : List Box) (A : List Box) (bs : List BdI) (v : AV) : Prop :=
  (v = .nils ∧ bs = []) ∨ ∃ j rows S g, v = .own j ∧ A.getD j .dead = (bif g then .gr none 6 rows else .row 6 rows 0) ∧ OwnB A bs rows S ∧ (j :: S).Nodup ∧ (∀ i ∈ j :: S, A0.length ≤ i) ∧ j < A.length
theorem BSt.frame {A0 A A' : List Box} {bs : List BdI} {v : AV} (h : BSt A0 A bs v) (hl : A.length ≤ A'.length) (hf : ∀ k, k < A.length → A'.getD k .dead = A.getD k .dead) : BSt A0 A' bs v := by
  rcases h with h | ⟨j, rows, S, g, h1, h2, h3, h4, h5, h6⟩
  · exact .inl h
  · exact .inr ⟨j, rows, S, g, h1, by rw [hf j h6]; exact h2, h3.frame fun i hi => hf i (h3.low i hi), h4, h5, by omega⟩
theorem bst_new {A0 X P : List Box} {bs : List BdI} {b : BdI} {v : AV} {S1 : List Nat} {rows : List (List AV)} {S : List Nat} {g : Bool} {Y : List Box} {N : Nat} (h0 : A0.length ≤ X.length) (hX : X.length ≤ N) (hN : N = Y.length)
    (hO : OwnB X bs rows S) (hnd : S.Nodup) (hge : ∀ i ∈ S, A0.length ≤ i) (hK : OwnK (X ++ P) b.typ.kids v S1) (hn1 : S1.Nodup) (hg1 : ∀ i ∈ S1, X.length ≤ i ∧ i < N) (hf : ∀ k ∈ S ++ S1, Y.getD k .dead = (X ++ P).getD k .dead) :
    BSt A0 (Y ++ [bif g then Box.gr none 6 (rows ++ [bRow b v]) else Box.row 6 (rows ++ [bRow b v]) 0]) (bs ++ [b]) (.own N) := by
  have low := hO.low
  refine .inr ⟨N, rows ++ [bRow b v], S ++ S1, g, rfl, by rw [hN, Abs.getD_append_right (Nat.le_refl _), Nat.sub_self]; rfl, ?_, ?_, ?_, by simp; omega⟩
  · have e : ∀ k ∈ S ++ S1, (Y ++ [bif g then Box.gr none 6 (rows ++ [bRow b v]) else Box.row 6 (rows ++ [bRow b v]) 0]).getD k .dead = (X ++ P).getD k .dead := fun k hk => by
      rw [Abs.getD_append_left ?_, hf k hk]
      rcases List.mem_append.1 hk with h | h
      · have := low k h; omega
      · have := hg1 k h; omega
    refine (hO.frame fun i hi => ?_).append ?_
    · rw [e i (List.mem_append_left _ hi), Abs.getD_append_left (low i hi)]
    · rw [OwnB]
      exact ⟨v, [], S1, [], rfl, by simp, hK.frame fun i hi => e i (List.mem_append_right _ hi), by simp [OwnB]⟩
  · refine List.nodup_cons.2 ⟨fun h => ?_, List.nodup_append.2 ⟨hnd, hn1, fun x hx y hy => ?_⟩⟩
    · rcases List.mem_append.1 h with h | h
      · have := low _ h; omega
      · have := hg1 _ h; omega
    · have := low x hx; have := hg1 y hy; omega
  · intro i hi
    rcases List.mem_cons.1 hi with rfl | hi
    · omega
    · rcases List.mem_append.1 hi with h | h
      · exact hge i h
      · have := hg1 i h; omega
theorem prowB (f : VT) (n : List UInt8) (N : Nat) : ∃ v, prow f N true = [.int .i64 (toTy f).kind, .str (toTy f).mod, .str (toTy f).name, v] ∧ (v = .nils ∨ ∃ i, v = .own i) := by
  cases f with
  | num => exact ⟨_, rfl, .inl rfl⟩
  | nm m k => exact ⟨_, rfl, .inl rfl⟩
  | fn a b => exact ⟨_, rfl, .inr ⟨_, rfl⟩⟩
theorem pboxK (f : VT) (X : List Box) {v : AV} (hv : prow f X.length true = [.int .i64 (toTy f).kind, .str (toTy f).mod, .str (toTy f).name, v]) : OwnK (X ++ pbox f X.length) (toTy f).kids v (pidx f X.length) := by
  have ho := own_plain f X.length true (X ++ pbox f X.length) fun k hk => by
    rw [Abs.getD_append_right (by omega)]
    congr 1; omega
  rw [hv] at ho
  cases ht : toTy f with
  | mk k m n ks =>
    rw [ht, ownT_mk] at ho
    obtain ⟨v', e, hK⟩ := ho
    simp only [List.cons.injEq, and_true] at e
    rw [e.2.2.2]
    exact hK

theorem mb_fin0 {X P : List Box} {lit : Box} {k : Nat} (h : k < X.length + P.length) : (X ++ (P ++ [lit])).getD k .dead = (X ++ P).getD k .dead := by
  rw [← List.append_assoc, Abs.getD_append_left (by simpa using h)]
theorem mb_fin1 {X P : List Box} {lit : Box} {j k : Nat} (hj : k ≠ j) (h : k < X.length + P.length) : (X.set j .dead ++ (P ++ [lit])).getD k .dead = (X ++ P).getD k .dead := by
  rw [← List.append_assoc, Abs.getD_append_left (by simpa using h)]
  by_cases hk : k < X.length
  · rw [Abs.getD_append_left (by simpa using hk), Abs.getD_append_left hk, getD_set_ne' (Ne.symm hj)]
  · rw [Abs.getD_append_right (by simp; omega), Abs.getD_append_right (by omega), List.length_set]
/-- new memory that holds what MatchBinds hands back -/
def OwnMb (A : List Box) (bs : List BdI) (v : AV) (S : List Nat) : Prop :=
  (v = .nils ∧ bs = [] ∧ S = []) ∨ ∃ i rows S', v = .own i ∧ S = i :: S' ∧ A.getD i .dead = .gr none 6 rows ∧ OwnB A bs rows S'
def MbOut (A : List Box) (bs : List BdI) (ok : Bool) (r : AV) (A' : List Box) : Prop :=
  ∃ v S, r = .tuple [v, .bool ok] ∧ OwnMb A' bs v S ∧ S.Nodup ∧ (∀ i ∈ S, A.length ≤ i) ∧ A.length ≤ A'.length ∧ ∀ i, i < A.length → A'.getD i .dead = A.getD i .dead
set_option maxRecDepth 100000 in
set_option maxHeartbeats 4000000 in
theorem impl_MatchBinds (a b : List SigI) (ha : a.length ≤ 1048576) (hoa : ∀ x ∈ a, x.Ok ∧ sz x.typ ≤ 1048576) (hb : b.length ≤ 1048576) (hob : ∀ x ∈ b, x.Ok ∧ sz x.typ ≤ 1048576) (A : List Box) :
    ACalls Tryz.prog 24 [.slice (sEs a), .slice (sEs b)] A (fun r A' => ∃ o, MbIs a b o ∧ MbOut A (o.getD []) o.isSome r A') := by
  refine ACalls.grow ?_
  refine acalls_enterK (cf := cf 56 [0, 1, 4, 5, 6, 7, 8, 9, 11, 12, 13, 14, 23, 24, 25, 26, 27, 36, 45]) foll Tryz.func24 Tryz.ntmps24 (by simp [cf]) ?_
  simp only [Tryz.f24, EnterK_some, zW, zX, zD, builtinA, isLeaf, const1, ustrA, simprocAttr, ti3, ti9, ti38, ti62, ti91, ti95, ti97, ca58, ca59, ca60, za97, cf, Tryz.results24]
  refine callO_intro (impl_readMatch a b ha hoa hb hob _) ?_
  rintro r A1 ⟨B, rfl, ⟨hs, ws, j, k, hra, hrb, rfl, hj, hk, hgj, hgk⟩ | ⟨c, hc, hn, rfl⟩⟩
  · have hvh := rdN_vok hra
    have hvw := rdN_vok hrb
    have hmO : ∀ {bs}, mbO hs (ws.map absO) = some bs → MbIs a b (some bs) := fun h => .inl ⟨hs, ws, hra, hrb, h.symm⟩
    have hmN : mbO hs (ws.map absO) = none → MbIs a b none := fun h => .inl ⟨hs, ws, hra, hrb, h.symm⟩
    have hgk2 : (A ++ B).getD (A.length + k) .dead = .row 1 (vRows ws) 0 := by rw [Abs.getD_append_right (by omega), Nat.add_sub_cancel_left]; exact hgk
    simp only [zW, zX, zD, builtinA, isLeaf, const1, ustrA, simprocAttr, ti3, ti9, ti38, ti62, ti91, ti95, ti97, ca58, ca59, ca60, za97, cf, Tryz.results24, hgk, vRows_length]
    refine aloop_intro [6, 9, 24, 25, 26] (fun e A' => ∃ p bs v, p ≤ ws.length ∧ mbO hs ((ws.map absO).take p) = some bs ∧ e = [(6, .own (A.length + j)), (9, v), (24, .own (A.length + k)), (25, .int .i64 ws.length), (26, .int .i64 p)] ∧ BSt (A ++ B) A' bs v ∧ (A ++ B).length ≤ A'.length ∧ ∀ i, i < (A ++ B).length → A'.getD i .dead = (A ++ B).getD i .dead) (fun e _ => ws.length - (intOf (Abs.look 26 e)).toNat) ?_ ?_
    · simp only [zW, zX, zD, builtinA, isLeaf, const1, ustrA, simprocAttr, ti3, ti9, ti38, ti62, ti91, ti95, ti97, ca58, ca59, ca60, za97, cf, Tryz.results24]
      refine ⟨0, [], .nils, by omega, by simp [mbO], rfl, .inl ⟨rfl, rfl⟩, ?_⟩
      simp
    · rintro e A' ⟨p, bs, v, hp, hmb, rfl, hB, hl, hf⟩
      have hgj2 : ∀ X, (A' ++ X).getD (A.length + j) .dead = .row 1 (vRows hs) 0 := fun X => by rw [Abs.getD_append_left (by simp at hl; omega), hf _ (by simp; omega), Abs.getD_append_right (by omega), Nat.add_sub_cancel_left]; exact hgj
      have hgk2 : ∀ X, (A' ++ X).getD (A.length + k) .dead = .row 1 (vRows ws) 0 := fun X => by rw [Abs.getD_append_left (by simp at hl; omega), hf _ (by simp; omega), Abs.getD_append_right (by omega), Nat.add_sub_cancel_left]; exact hgk
      have hgk3 : A'.getD (A.length + k) .dead = .row 1 (vRows ws) 0 := by have := hgk2 []; rwa [List.append_nil] at this
      by_cases hp2 : p < ws.length
      · have d2 : decide ((p : Int) < (ws.length : Int)) = true := by simp; omega
        have pp : (0 : Int) ≤ (p : Int) ∧ (p : Int) < (ws.length : Int) := ⟨by omega, by omega⟩
        have he := vRows_getD hp2
        have hi1 : IntKind.i64.wrap ((p : Int) + 1) = ((p + 1 : Nat) : Int) := by rw [wrap64 (by omega) (by omega)]; rfl
        have hsn := mbO_snoc hs (l := ws.map absO) (i := p) (by simpa using hp2) hmb
        have hfl := mbO_fail hs (l := ws.map absO) (i := p) (by simpa using hp2)
        have hgo : (ws.map absO).getD p none = absO (ws.getD p vi0) := by simp [List.getD, hp2]
        rw [hgo] at hsn hfl
        generalize ws.getD p vi0 = y at *
        rw [vRow] at he
        cases y with
        | ab n =>
          simp only [viT, viX] at he
          simp only [zW, zX, zD, builtinA, isLeaf, const1, ustrA, simprocAttr, ti3, ti9, ti38, ti62, ti91, ti95, ti97, ca58, ca59, ca60, za97, cf, Tryz.results24, hgk3, vRows_length, d2, he]
          refine ⟨pp, ?_⟩
          have hmk : ∀ f, findF hs (false, n) = some f → mbO hs [absO (.ab n)] = some [⟨[], n, toTy f⟩] := fun f h => by simp only [absO, mbO, h]; rfl
          have hmn : findF hs (false, n) = none → mbO hs [absO (.ab n)] = none := fun h => by simp only [absO, mbO, h]
          have hfv := findR_view hs (by omega) (false, n) (hgj2 [Box.cells [.str n]])
          have hkey := fun A => ab_key n A
          simp only [kE, viX, viK] at hfv hkey
          have hbx : ∀ Y, (A' ++ (Box.cells [.str n] :: Y)).getD A'.length .dead = .cells [.str n] := fun Y => by rw [Abs.getD_append_right (Nat.le_refl _)]; simp
          simp only [zW, zX, zD, builtinA, isLeaf, const1, ustrA, simprocAttr, ti3, ti9, ti38, ti62, ti91, ti95, ti97, ca58, ca59, ca60, za97, cf, Tryz.results24, wpO_typeAssert, assert_yes]
          refine callO_intro (hkey _) ?_
          rintro r A2 ⟨rfl, rfl⟩
          simp only [zW, zX, zD, builtinA, isLeaf, const1, ustrA, simprocAttr, ti3, ti9, ti38, ti62, ti91, ti95, ti97, ca58, ca59, ca60, za97, cf, Tryz.results24]
          refine callO_intro hfv ?_
          rintro r A2 ⟨o, hfo, rfl, rfl⟩
          have ho := findO_one hra hfo (findF_is hs (false, n))
          cases o with
          | none =>
            simp only [findR]
            simp only [zW, zX, zD, builtinA, isLeaf, const1, ustrA, simprocAttr, ti3, ti9, ti38, ti62, ti91, ti95, ti97, ca58, ca59, ca60, za97, cf, Tryz.results24]
            exact .inl ⟨none, hmN (hfl (hmn ho.symm)), _, [], rfl, .inl ⟨rfl, rfl, rfl⟩, by simp, by simp, by simp at hl ⊢; omega, fun i hi => by rw [Abs.getD_append_left (by simp at hl; omega), hf i (by simp; omega), Abs.getD_append_left hi]⟩
          | some f =>
            have hmf := hmk f ho.symm
            rw [hmf] at hsn
            simp only [Option.map_some] at hsn
            simp only [findR]
            obtain ⟨vf, hvf, hvf2⟩ := prowB f n (A' ++ [Box.cells [.str n]]).length
            have hK := pboxK f (A' ++ [Box.cells [.str n]]) hvf
            have hpl := plainM f (A' ++ [Box.cells [.str n]])
            rw [hvf] at hpl
            have hpin := pidx_in f (A' ++ [Box.cells [.str n]]).length
            have hpnd := pidx_nodup f (A' ++ [Box.cells [.str n]]).length
            have hpbl := pbox_length f (A' ++ [Box.cells [.str n]]).length
            have hB2 : BSt (A ++ B) (A' ++ [Box.cells [.str n]]) bs v := hB.frame (by simp) fun i hi => Abs.getD_append_left hi
            have hXl : A'.length + 1 = (A' ++ [Box.cells [.str n]]).length := by simp
            have hbx2 := hbx []
            generalize hX : A' ++ [Box.cells [.str n]] = X at *
            generalize hP : pbox f X.length = P at *
            have hbX : ∀ Y, (X ++ Y).getD A'.length .dead = .cells [.str n] := fun Y => by rw [← hX, List.append_assoc]; exact hbx _
            have hl' : A.length + B.length ≤ X.length := by rw [← hXl]; simp at hl; omega
            have hfX : ∀ i, i < A.length + B.length → X.getD i .dead = (A ++ B).getD i .dead := fun i hi => by rw [← hX, Abs.getD_append_left (by simp at hl; omega)]; exact hf i (by simpa using hi)
            have hl0 : (A ++ B).length ≤ X.length := by simpa using hl'
            simp only [zW, zX, zD, builtinA, isLeaf, const1, ustrA, simprocAttr, ti3, ti9, ti38, ti62, ti91, ti95, ti97, ca58, ca59, ca60, za97, cf, Tryz.results24, hbx2]
            rcases hvf2 with rfl | ⟨iv, rfl⟩
            · have hK2 : OwnK (X ++ P) (toTy f).kids (.slice []) (pidx f X.length) := by
                rcases hK with ⟨_, h1, h2⟩ | ⟨h0, _⟩ | ⟨i, _, _, h0, _⟩
                · exact .inr (.inl ⟨rfl, h1, h2⟩)
                · cases h0
                · cases h0
              rcases hB2 with ⟨rfl, rfl⟩ | ⟨j2, rows, S, g, rfl, hb2, hO, hN, hge, hlj⟩
              · refine .inr (drawE_intro [(false, 0, 2), (false, 0, 1), (false, 0, 1), (false, 0, 0), (true, 0, 0), (false, 1, 1), (true, 1, 1), (true, 2, 2), (false, 3, 3)] [X, X ++ P, X ++ (P ++ [.row 6 [[AV.str [], .str n, .int .i64 (toTy f).kind, .str (toTy f).mod, .str (toTy f).name, AV.slice []]] 0]), X ++ (P ++ [.row 6 [[AV.str [], .str n, .int .i64 (toTy f).kind, .str (toTy f).mod, .str (toTy f).name, AV.slice []]] 0, .row 6 [[AV.str [], .str n, .int .i64 (toTy f).kind, .str (toTy f).mod, .str (toTy f).name, AV.slice []]] 0])] 3 rfl (by kernel_rfl) (by kernel_rfl) (by kernel_rfl) (by kernel_rfl) (by kernel_rfl) (by kernel_rfl) ?_)
                simp only [zW, zX, zD, builtinA, isLeaf, const1, ustrA, simprocAttr, ti3, ti9, ti38, ti62, ti91, ti95, ti97, ca58, ca59, ca60, za97, cf, Tryz.results24, hbx2, hbX]
                refine wpG_invoke _ _ _ _ _ _ _ _ _ _ _ _ _ _ _ _ _ _ ?_
                simp only [zW, zX, zD, builtinA, isLeaf, const1, ustrA, simprocAttr, ti3, ti9, ti38, ti62, ti91, ti95, ti97, ca58, ca59, ca60, za97, cf, Tryz.results24]
                refine meth_invE (met3 (by kernel_rfl) (by kernel_rfl) (by kernel_rfl) (by kernel_rfl) (by kernel_rfl) (by kernel_rfl)) hpl rfl ?_
                simp only [zW, zX, zD, builtinA, isLeaf, const1, ustrA, simprocAttr, ti3, ti9, ti38, ti62, ti91, ti95, ti97, ca58, ca59, ca60, za97, cf, Tryz.results24, hbx2, hbX]
                have lf : ∀ w ∈ [AV.str ([] : List UInt8), .str n, .int .i64 (toTy f).kind, .str (toTy f).mod, .str (toTy f).name, AV.slice []], isLeaf w = true := by simp [isElem, isLeaf]
                refine ⟨fun w hw => lf w hw, fun r hr => by rw [List.mem_singleton.1 hr]; rfl, ?_⟩
                simp only [zW, zX, zD, builtinA, isLeaf, const1, ustrA, simprocAttr, ti3, ti9, ti38, ti62, ti91, ti95, ti97, ca58, ca59, ca60, za97, cf, Tryz.results24, hi1, LoopK_eq]
                have hb4 := bst_new (A0 := A ++ B) (b := ⟨[], n, toTy f⟩) (v := (.slice [])) (g := false) (rows := []) (S := []) (Y := X ++ (P ++ [.row 6 [[AV.str [], .str n, .int .i64 (toTy f).kind, .str (toTy f).mod, .str (toTy f).name, AV.slice []]] 0])) (N := X.length + (P.length + 1)) hl0 (by omega) (by simp) (bs := []) (by simp [OwnB]) (by simp) (by simp) hK2 hpnd (fun i hi => by have := hpin i hi; omega) (fun q hq => mb_fin0 (by have := hpin q (by simpa using hq); omega))
                simp only [List.append_assoc, List.nil_append, List.cons_append, cond_true, cond_false, bRow] at hb4
                refine ⟨⟨p + 1, _, _, by omega, hsn, rfl, hb4, by omega, fun i hi => by rw [Abs.getD_append_left (by omega)]; exact (hfX i hi).trans (by simp)⟩, ?_⟩
                simp only [intOf]; omega
              · have hst3 : ∀ Y : List Box, (X ++ Y).set j2 .dead = X.set j2 .dead ++ Y := fun Y => by rw [List.set_append_left _ _ hlj]
                have hlj3 : ∀ Y : List Box, j2 < (X ++ Y).length := fun Y => by simp; omega
                cases g with
                | false =>
                  have hb3 : ∀ Y, (X ++ Y).getD j2 .dead = .row 6 rows 0 := fun Y => by rw [Abs.getD_append_left hlj]; exact hb2
                  refine .inr (drawE_intro [(false, 0, 2), (false, 0, 1), (false, 0, 1), (false, 0, 0), (true, 0, 0), (false, 1, 1), (true, 1, 1), (true, 2, 2), (false, 3, 3)] [X, X ++ P, X ++ (P ++ [.row 6 [[AV.str [], .str n, .int .i64 (toTy f).kind, .str (toTy f).mod, .str (toTy f).name, AV.slice []]] 0]), X.set j2 .dead ++ (P ++ [.row 6 [[AV.str [], .str n, .int .i64 (toTy f).kind, .str (toTy f).mod, .str (toTy f).name, AV.slice []]] 0, .row 6 (rows ++ [[AV.str [], .str n, .int .i64 (toTy f).kind, .str (toTy f).mod, .str (toTy f).name, AV.slice []]]) 0])] 3 rfl (by kernel_rfl) (by kernel_rfl) (by kernel_rfl) (by kernel_rfl) (by kernel_rfl) (by kernel_rfl) ?_)
                  simp only [zW, zX, zD, builtinA, isLeaf, const1, ustrA, simprocAttr, ti3, ti9, ti38, ti62, ti91, ti95, ti97, ca58, ca59, ca60, za97, cf, Tryz.results24, hbx2, hbX]
                  refine wpG_invoke _ _ _ _ _ _ _ _ _ _ _ _ _ _ _ _ _ _ ?_
                  simp only [zW, zX, zD, builtinA, isLeaf, const1, ustrA, simprocAttr, ti3, ti9, ti38, ti62, ti91, ti95, ti97, ca58, ca59, ca60, za97, cf, Tryz.results24]
                  refine meth_invE (met3 (by kernel_rfl) (by kernel_rfl) (by kernel_rfl) (by kernel_rfl) (by kernel_rfl) (by kernel_rfl)) hpl rfl ?_
                  simp only [zW, zX, zD, builtinA, isLeaf, const1, ustrA, simprocAttr, ti3, ti9, ti38, ti62, ti91, ti95, ti97, ca58, ca59, ca60, za97, cf, Tryz.results24, hbx2, hbX, hb3, hst3, hlj3]
                  have hrl8 : rows.length ≤ 8 := by have h1 := hO.length; have h2 := (mbO_ok hvh.2 hmb).1; simp at h2; omega
                  have lf : ∀ w ∈ [AV.str ([] : List UInt8), .str n, .int .i64 (toTy f).kind, .str (toTy f).mod, .str (toTy f).name, AV.slice []], isLeaf w = true := by simp [isElem, isLeaf]
                  refine ⟨fun w hw => lf w hw, ⟨fun r hr => by rw [List.mem_singleton.1 hr]; rfl, by omega⟩, ?_⟩
                  simp only [zW, zX, zD, builtinA, isLeaf, const1, ustrA, simprocAttr, ti3, ti9, ti38, ti62, ti91, ti95, ti97, ca58, ca59, ca60, za97, cf, Tryz.results24, hi1, LoopK_eq]
                  have hb4 := bst_new (A0 := A ++ B) (b := ⟨[], n, toTy f⟩) (v := (.slice [])) (g := false) (Y := X.set j2 .dead ++ (P ++ [.row 6 [[AV.str [], .str n, .int .i64 (toTy f).kind, .str (toTy f).mod, .str (toTy f).name, AV.slice []]] 0])) (N := X.length + (P.length + 1)) hl0 (by omega) (by simp) hO (List.nodup_cons.1 hN).2 (fun i hi => hge i (by simp [hi])) hK2 hpnd (fun i hi => by have := hpin i hi; omega) (fun q hq => mb_fin1 (fun e => ?_) ?_)
                  · simp only [List.append_assoc, List.nil_append, List.cons_append, cond_true, cond_false, bRow] at hb4
                    have hj2 := hge j2 (by simp)
                    simp only [List.length_append] at hj2
                    refine ⟨⟨p + 1, _, _, by omega, hsn, rfl, hb4, by omega, fun i hi => by rw [Abs.getD_append_left (by simp; omega), getD_set_ne' (by omega)]; exact (hfX i hi).trans (by simp)⟩, ?_⟩
                    simp only [intOf]; omega
                  · rcases List.mem_append.1 hq with h | h
                    · subst e; exact (List.nodup_cons.1 hN).1 h
                    · have := hpin q h; omega
                  · rcases List.mem_append.1 hq with h | h
                    · have := hO.low q h; omega
                    · have := hpin q h; omega
                | true =>
                  have hb3 : ∀ Y, (X ++ Y).getD j2 .dead = .gr none 6 rows := fun Y => by rw [Abs.getD_append_left hlj]; exact hb2
                  refine .inr (drawE_intro [(false, 0, 2), (false, 0, 1), (false, 0, 1), (false, 0, 0), (true, 0, 0), (false, 1, 1), (true, 1, 1), (true, 2, 2), (false, 3, 3)] [X, X ++ P, X ++ (P ++ [.row 6 [[AV.str [], .str n, .int .i64 (toTy f).kind, .str (toTy f).mod, .str (toTy f).name, AV.slice []]] 0]), X.set j2 .dead ++ (P ++ [.row 6 [[AV.str [], .str n, .int .i64 (toTy f).kind, .str (toTy f).mod, .str (toTy f).name, AV.slice []]] 0, .gr none 6 (rows ++ [[AV.str [], .str n, .int .i64 (toTy f).kind, .str (toTy f).mod, .str (toTy f).name, AV.slice []]])])] 3 rfl (by kernel_rfl) (by kernel_rfl) (by kernel_rfl) (by kernel_rfl) (by kernel_rfl) (by kernel_rfl) ?_)
                  simp only [zW, zX, zD, builtinA, isLeaf, const1, ustrA, simprocAttr, ti3, ti9, ti38, ti62, ti91, ti95, ti97, ca58, ca59, ca60, za97, cf, Tryz.results24, hbx2, hbX]
                  refine wpG_invoke _ _ _ _ _ _ _ _ _ _ _ _ _ _ _ _ _ _ ?_
                  simp only [zW, zX, zD, builtinA, isLeaf, const1, ustrA, simprocAttr, ti3, ti9, ti38, ti62, ti91, ti95, ti97, ca58, ca59, ca60, za97, cf, Tryz.results24]
                  refine meth_invE (met3 (by kernel_rfl) (by kernel_rfl) (by kernel_rfl) (by kernel_rfl) (by kernel_rfl) (by kernel_rfl)) hpl rfl ?_
                  simp only [zW, zX, zD, builtinA, isLeaf, const1, ustrA, simprocAttr, ti3, ti9, ti38, ti62, ti91, ti95, ti97, ca58, ca59, ca60, za97, cf, Tryz.results24, hbx2, hbX, hb3, hst3, hlj3]
                  have hrl8 : rows.length ≤ 8 := by have h1 := hO.length; have h2 := (mbO_ok hvh.2 hmb).1; simp at h2; omega
                  have lf : ∀ w ∈ [AV.str ([] : List UInt8), .str n, .int .i64 (toTy f).kind, .str (toTy f).mod, .str (toTy f).name, AV.slice []], isLeaf w = true := by simp [isElem, isLeaf]
                  refine ⟨fun w hw => lf w hw, ⟨fun _ => trivial, fun r hr => by rw [List.mem_singleton.1 hr]; rfl, by omega⟩, ?_⟩
                  simp only [zW, zX, zD, builtinA, isLeaf, const1, ustrA, simprocAttr, ti3, ti9, ti38, ti62, ti91, ti95, ti97, ca58, ca59, ca60, za97, cf, Tryz.results24, hi1, LoopK_eq]
                  have hb4 := bst_new (A0 := A ++ B) (b := ⟨[], n, toTy f⟩) (v := (.slice [])) (g := true) (Y := X.set j2 .dead ++ (P ++ [.row 6 [[AV.str [], .str n, .int .i64 (toTy f).kind, .str (toTy f).mod, .str (toTy f).name, AV.slice []]] 0])) (N := X.length + (P.length + 1)) hl0 (by omega) (by simp) hO (List.nodup_cons.1 hN).2 (fun i hi => hge i (by simp [hi])) hK2 hpnd (fun i hi => by have := hpin i hi; omega) (fun q hq => mb_fin1 (fun e => ?_) ?_)
                  · simp only [List.append_assoc, List.nil_append, List.cons_append, cond_true, cond_false, bRow] at hb4
                    have hj2 := hge j2 (by simp)
                    simp only [List.length_append] at hj2
                    refine ⟨⟨p + 1, _, _, by omega, hsn, rfl, hb4, by omega, fun i hi => by rw [Abs.getD_append_left (by simp; omega), getD_set_ne' (by omega)]; exact (hfX i hi).trans (by simp)⟩, ?_⟩
                    simp only [intOf]; omega
                  · rcases List.mem_append.1 hq with h | h
                    · subst e; exact (List.nodup_cons.1 hN).1 h
                    · have := hpin q h; omega
                  · rcases List.mem_append.1 hq with h | h
                    · have := hO.low q h; omega
                    · have := hpin q h; omega
            · obtain ⟨rws, hgv⟩ : ∃ rws, (X ++ P).getD iv .dead = .gr none 4 rws := by
                rcases hK with ⟨h0, _⟩ | ⟨h0, _⟩ | ⟨i', rws, _, h0, _, hg, _⟩
                · cases h0
                · cases h0
                · cases h0; exact ⟨rws, hg⟩
              rcases hB2 with ⟨rfl, rfl⟩ | ⟨j2, rows, S, g, rfl, hb2, hO, hN, hge, hlj⟩
              · refine .inr (drawE_intro [(false, 0, 2), (false, 0, 1), (false, 0, 1), (false, 0, 0), (true, 0, 0), (false, 1, 1), (true, 1, 1), (true, 2, 2), (false, 3, 3)] [X, X ++ P, X ++ (P ++ [.gr none 6 [[AV.str [], .str n, .int .i64 (toTy f).kind, .str (toTy f).mod, .str (toTy f).name, AV.own iv]]]), X ++ (P ++ [.gr none 6 [[AV.str [], .str n, .int .i64 (toTy f).kind, .str (toTy f).mod, .str (toTy f).name, AV.own iv]], .gr none 6 [[AV.str [], .str n, .int .i64 (toTy f).kind, .str (toTy f).mod, .str (toTy f).name, AV.own iv]]])] 3 rfl (by kernel_rfl) (by kernel_rfl) (by kernel_rfl) (by kernel_rfl) (by kernel_rfl) (by kernel_rfl) ?_)
                simp only [zW, zX, zD, builtinA, isLeaf, const1, ustrA, simprocAttr, ti3, ti9, ti38, ti62, ti91, ti95, ti97, ca58, ca59, ca60, za97, cf, Tryz.results24, hbx2, hbX]
                refine wpG_invoke _ _ _ _ _ _ _ _ _ _ _ _ _ _ _ _ _ _ ?_
                simp only [zW, zX, zD, builtinA, isLeaf, const1, ustrA, simprocAttr, ti3, ti9, ti38, ti62, ti91, ti95, ti97, ca58, ca59, ca60, za97, cf, Tryz.results24]
                refine meth_invE (met3 (by kernel_rfl) (by kernel_rfl) (by kernel_rfl) (by kernel_rfl) (by kernel_rfl) (by kernel_rfl)) hpl rfl ?_
                simp only [zW, zX, zD, builtinA, isLeaf, const1, ustrA, simprocAttr, ti3, ti9, ti38, ti62, ti91, ti95, ti97, ca58, ca59, ca60, za97, cf, Tryz.results24, hbx2, hbX, hgv]
                have el : ∀ w ∈ [AV.str ([] : List UInt8), .str n, .int .i64 (toTy f).kind, .str (toTy f).mod, .str (toTy f).name, AV.own iv], isElem w = true := by simp [isElem, isLeaf]
                refine ⟨fun w hw => el w hw, ?_⟩
                simp only [zW, zX, zD, builtinA, isLeaf, const1, ustrA, simprocAttr, ti3, ti9, ti38, ti62, ti91, ti95, ti97, ca58, ca59, ca60, za97, cf, Tryz.results24, hi1, LoopK_eq]
                have hb4 := bst_new (A0 := A ++ B) (b := ⟨[], n, toTy f⟩) (v := (.own iv)) (g := true) (rows := []) (S := []) (Y := X ++ (P ++ [.gr none 6 [[AV.str [], .str n, .int .i64 (toTy f).kind, .str (toTy f).mod, .str (toTy f).name, AV.own iv]]])) (N := X.length + (P.length + 1)) hl0 (by omega) (by simp) (bs := []) (by simp [OwnB]) (by simp) (by simp) hK hpnd (fun i hi => by have := hpin i hi; omega) (fun q hq => mb_fin0 (by have := hpin q (by simpa using hq); omega))
                simp only [List.append_assoc, List.nil_append, List.cons_append, cond_true, cond_false, bRow] at hb4
                refine ⟨⟨p + 1, _, _, by omega, hsn, rfl, hb4, by omega, fun i hi => by rw [Abs.getD_append_left (by omega)]; exact (hfX i hi).trans (by simp)⟩, ?_⟩
                simp only [intOf]; omega
              · have hst3 : ∀ Y : List Box, (X ++ Y).set j2 .dead = X.set j2 .dead ++ Y := fun Y => by rw [List.set_append_left _ _ hlj]
                have hlj3 : ∀ Y : List Box, j2 < (X ++ Y).length := fun Y => by simp; omega
                cases g with
                | false =>
                  have hb3 : ∀ Y, (X ++ Y).getD j2 .dead = .row 6 rows 0 := fun Y => by rw [Abs.getD_append_left hlj]; exact hb2
                  refine .inr (drawE_intro [(false, 0, 2), (false, 0, 1), (false, 0, 1), (false, 0, 0), (true, 0, 0), (false, 1, 1), (true, 1, 1), (true, 2, 2), (false, 3, 3)] [X, X ++ P, X ++ (P ++ [.gr none 6 [[AV.str [], .str n, .int .i64 (toTy f).kind, .str (toTy f).mod, .str (toTy f).name, AV.own iv]]]), X.set j2 .dead ++ (P ++ [.gr none 6 [[AV.str [], .str n, .int .i64 (toTy f).kind, .str (toTy f).mod, .str (toTy f).name, AV.own iv]], .gr none 6 (rows ++ [[AV.str [], .str n, .int .i64 (toTy f).kind, .str (toTy f).mod, .str (toTy f).name, AV.own iv]])])] 3 rfl (by kernel_rfl) (by kernel_rfl) (by kernel_rfl) (by kernel_rfl) (by kernel_rfl) (by kernel_rfl) ?_)
                  simp only [zW, zX, zD, builtinA, isLeaf, const1, ustrA, simprocAttr, ti3, ti9, ti38, ti62, ti91, ti95, ti97, ca58, ca59, ca60, za97, cf, Tryz.results24, hbx2, hbX]
                  refine wpG_invoke _ _ _ _ _ _ _ _ _ _ _ _ _ _ _ _ _ _ ?_
                  simp only [zW, zX, zD, builtinA, isLeaf, const1, ustrA, simprocAttr, ti3, ti9, ti38, ti62, ti91, ti95, ti97, ca58, ca59, ca60, za97, cf, Tryz.results24]
                  refine meth_invE (met3 (by kernel_rfl) (by kernel_rfl) (by kernel_rfl) (by kernel_rfl) (by kernel_rfl) (by kernel_rfl)) hpl rfl ?_
                  simp only [zW, zX, zD, builtinA, isLeaf, const1, ustrA, simprocAttr, ti3, ti9, ti38, ti62, ti91, ti95, ti97, ca58, ca59, ca60, za97, cf, Tryz.results24, hbx2, hbX, hb3, hst3, hlj3, hgv]
                  have hrl8 : rows.length ≤ 8 := by have h1 := hO.length; have h2 := (mbO_ok hvh.2 hmb).1; simp at h2; omega
                  have el : ∀ w ∈ [AV.str ([] : List UInt8), .str n, .int .i64 (toTy f).kind, .str (toTy f).mod, .str (toTy f).name, AV.own iv], isElem w = true := by simp [isElem, isLeaf]
                  refine ⟨fun w hw => el w hw, by omega, ?_⟩
                  simp only [zW, zX, zD, builtinA, isLeaf, const1, ustrA, simprocAttr, ti3, ti9, ti38, ti62, ti91, ti95, ti97, ca58, ca59, ca60, za97, cf, Tryz.results24, hi1, LoopK_eq]
                  have hb4 := bst_new (A0 := A ++ B) (b := ⟨[], n, toTy f⟩) (v := (.own iv)) (g := true) (Y := X.set j2 .dead ++ (P ++ [.gr none 6 [[AV.str [], .str n, .int .i64 (toTy f).kind, .str (toTy f).mod, .str (toTy f).name, AV.own iv]]])) (N := X.length + (P.length + 1)) hl0 (by omega) (by simp) hO (List.nodup_cons.1 hN).2 (fun i hi => hge i (by simp [hi])) hK hpnd (fun i hi => by have := hpin i hi; omega) (fun q hq => mb_fin1 (fun e => ?_) ?_)
                  · simp only [List.append_assoc, List.nil_append, List.cons_append, cond_true, cond_false, bRow] at hb4
                    have hj2 := hge j2 (by simp)
                    simp only [List.length_append] at hj2
                    refine ⟨⟨p + 1, _, _, by omega, hsn, rfl, hb4, by omega, fun i hi => by rw [Abs.getD_append_left (by simp; omega), getD_set_ne' (by omega)]; exact (hfX i hi).trans (by simp)⟩, ?_⟩
                    simp only [intOf]; omega
                  · rcases List.mem_append.1 hq with h | h
                    · subst e; exact (List.nodup_cons.1 hN).1 h
                    · have := hpin q h; omega
                  · rcases List.mem_append.1 hq with h | h
                    · have := hO.low q h; omega
                    · have := hpin q h; omega
                | true =>
                  have hb3 : ∀ Y, (X ++ Y).getD j2 .dead = .gr none 6 rows := fun Y => by rw [Abs.getD_append_left hlj]; exact hb2
                  refine .inr (drawE_intro [(false, 0, 2), (false, 0, 1), (false, 0, 1), (false, 0, 0), (true, 0, 0), (false, 1, 1), (true, 1, 1), (true, 2, 2), (false, 3, 3)] [X, X ++ P, X ++ (P ++ [.gr none 6 [[AV.str [], .str n, .int .i64 (toTy f).kind, .str (toTy f).mod, .str (toTy f).name, AV.own iv]]]), X.set j2 .dead ++ (P ++ [.gr none 6 [[AV.str [], .str n, .int .i64 (toTy f).kind, .str (toTy f).mod, .str (toTy f).name, AV.own iv]], .gr none 6 (rows ++ [[AV.str [], .str n, .int .i64 (toTy f).kind, .str (toTy f).mod, .str (toTy f).name, AV.own iv]])])] 3 rfl (by kernel_rfl) (by kernel_rfl) (by kernel_rfl) (by kernel_rfl) (by kernel_rfl) (by kernel_rfl) ?_)
                  simp only [zW, zX, zD, builtinA, isLeaf, const1, ustrA, simprocAttr, ti3, ti9, ti38, ti62, ti91, ti95, ti97, ca58, ca59, ca60, za97, cf, Tryz.results24, hbx2, hbX]
                  refine wpG_invoke _ _ _ _ _ _ _ _ _ _ _ _ _ _ _ _ _ _ ?_
                  simp only [zW, zX, zD, builtinA, isLeaf, const1, ustrA, simprocAttr, ti3, ti9, ti38, ti62, ti91, ti95, ti97, ca58, ca59, ca60, za97, cf, Tryz.results24]
                  refine meth_invE (met3 (by kernel_rfl) (by kernel_rfl) (by kernel_rfl) (by kernel_rfl) (by kernel_rfl) (by kernel_rfl)) hpl rfl ?_
                  simp only [zW, zX, zD, builtinA, isLeaf, const1, ustrA, simprocAttr, ti3, ti9, ti38, ti62, ti91, ti95, ti97, ca58, ca59, ca60, za97, cf, Tryz.results24, hbx2, hbX, hb3, hst3, hlj3, hgv]
                  have hrl8 : rows.length ≤ 8 := by have h1 := hO.length; have h2 := (mbO_ok hvh.2 hmb).1; simp at h2; omega
                  have el : ∀ w ∈ [AV.str ([] : List UInt8), .str n, .int .i64 (toTy f).kind, .str (toTy f).mod, .str (toTy f).name, AV.own iv], isElem w = true := by simp [isElem, isLeaf]
                  refine ⟨fun w hw => el w hw, by omega, ?_⟩
                  simp only [zW, zX, zD, builtinA, isLeaf, const1, ustrA, simprocAttr, ti3, ti9, ti38, ti62, ti91, ti95, ti97, ca58, ca59, ca60, za97, cf, Tryz.results24, hi1, LoopK_eq]
                  have hb4 := bst_new (A0 := A ++ B) (b := ⟨[], n, toTy f⟩) (v := (.own iv)) (g := true) (Y := X.set j2 .dead ++ (P ++ [.gr none 6 [[AV.str [], .str n, .int .i64 (toTy f).kind, .str (toTy f).mod, .str (toTy f).name, AV.own iv]]])) (N := X.length + (P.length + 1)) hl0 (by omega) (by simp) hO (List.nodup_cons.1 hN).2 (fun i hi => hge i (by simp [hi])) hK hpnd (fun i hi => by have := hpin i hi; omega) (fun q hq => mb_fin1 (fun e => ?_) ?_)
                  · simp only [List.append_assoc, List.nil_append, List.cons_append, cond_true, cond_false, bRow] at hb4
                    have hj2 := hge j2 (by simp)
                    simp only [List.length_append] at hj2
                    refine ⟨⟨p + 1, _, _, by omega, hsn, rfl, hb4, by omega, fun i hi => by rw [Abs.getD_append_left (by simp; omega), getD_set_ne' (by omega)]; exact (hfX i hi).trans (by simp)⟩, ?_⟩
                    simp only [intOf]; omega
                  · rcases List.mem_append.1 hq with h | h
                    · subst e; exact (List.nodup_cons.1 hN).1 h
                    · have := hpin q h; omega
                  · rcases List.mem_append.1 hq with h | h
                    · have := hO.low q h; omega
                    · have := hpin q h; omega
        | al n w =>
          have has := fun A => assert_no [.str []] 150 97 (.agg [.str n, .iface (vT w) (vX w)]) rfl (A := A)
          have hz : mbO hs [absO (.al n w)] = some [] := rfl
          rw [hz] at hsn
          simp only [Option.map_some, List.append_nil] at hsn
          simp only [viT, viX] at he
          simp only [zW, zX, zD, builtinA, isLeaf, const1, ustrA, simprocAttr, ti3, ti9, ti38, ti62, ti91, ti95, ti97, ca58, ca59, ca60, za97, cf, Tryz.results24, hgk3, vRows_length, d2, he]
          refine ⟨pp, ?_⟩
          simp only [zW, zX, zD, builtinA, isLeaf, const1, ustrA, simprocAttr, ti3, ti9, ti38, ti62, ti91, ti95, ti97, ca58, ca59, ca60, za97, cf, Tryz.results24, wpO_typeAssert, has, hi1, LoopK_eq]
          refine ⟨⟨p + 1, bs, v, by omega, hsn, rfl, hB.frame (by simp) fun i hi => Abs.getD_append_left hi, by simp at hl ⊢; omega, fun i hi => by rw [Abs.getD_append_left (by simp at hl; omega)]; exact hf i (by simpa using hi)⟩, ?_⟩
          simp only [intOf]; omega
        | va n w =>
          have has := fun A => assert_no [.str []] 151 97 (.agg [.str n, .iface (vT w) (vX w)]) rfl (A := A)
          have hz : mbO hs [absO (.va n w)] = some [] := rfl
          rw [hz] at hsn
          simp only [Option.map_some, List.append_nil] at hsn
          simp only [viT, viX] at he
          simp only [zW, zX, zD, builtinA, isLeaf, const1, ustrA, simprocAttr, ti3, ti9, ti38, ti62, ti91, ti95, ti97, ca58, ca59, ca60, za97, cf, Tryz.results24, hgk3, vRows_length, d2, he]
          refine ⟨pp, ?_⟩
          simp only [zW, zX, zD, builtinA, isLeaf, const1, ustrA, simprocAttr, ti3, ti9, ti38, ti62, ti91, ti95, ti97, ca58, ca59, ca60, za97, cf, Tryz.results24, wpO_typeAssert, has, hi1, LoopK_eq]
          refine ⟨⟨p + 1, bs, v, by omega, hsn, rfl, hB.frame (by simp) fun i hi => Abs.getD_append_left hi, by simp at hl ⊢; omega, fun i hi => by rw [Abs.getD_append_left (by simp at hl; omega)]; exact hf i (by simpa using hi)⟩, ?_⟩
          simp only [intOf]; omega
      · have d2 : decide ((p : Int) < (ws.length : Int)) = false := by simp; omega
        have e : p = ws.length := by omega
        subst e
        rw [List.take_of_length_le (by simp)] at hmb
        have hlt : A.length ≤ A'.length := by simp at hl; omega
        have hfr : ∀ i, i < A.length → A'.getD i .dead = A.getD i .dead := fun i hi => by rw [hf i (by simp; omega), Abs.getD_append_left hi]
        simp only [zW, zX, zD, builtinA, isLeaf, const1, ustrA, simprocAttr, ti3, ti9, ti38, ti62, ti91, ti95, ti97, ca58, ca59, ca60, za97, cf, Tryz.results24, d2]
        rcases hB with ⟨rfl, rfl⟩ | ⟨j2, rows, S, g, rfl, hb2, hO, hN, hge, hlj⟩
        · exact .inl ⟨some [], hmO hmb, _, [], rfl, .inl ⟨rfl, rfl, rfl⟩, by simp, by simp, hlt, hfr⟩
        · have hge2 : ∀ i ∈ j2 :: S, A.length ≤ i := fun i hi => by have := hge i hi; simp at this; omega
          cases g with
          | true => exact .inl ⟨some bs, hmO hmb, _, j2 :: S, rfl, .inr ⟨j2, rows, S, rfl, rfl, hb2, hO⟩, hN, hge2, hlt, hfr⟩
          | false =>
            have hnj := (List.nodup_cons.1 hN).1
            refine .inr ⟨j2, 6, rows, hb2, some bs, hmO hmb, _, j2 :: S, rfl, .inr ⟨j2, rows, S, rfl, rfl, getD_set_self hlj, hO.frame fun i hi => ?_⟩, hN, hge2, by simpa using hlt, fun i hi => ?_⟩
            · rw [getD_set_ne' (fun e => hnj (by rw [e]; exact hi))]
            · have := hge2 j2 (by simp)
              rw [getD_set_ne' (by omega)]; exact hfr i hi
  · have hc0 : decide (c = 0) = false := decide_eq_false (by rcases hc with ⟨rfl, _⟩ | ⟨rfl, _⟩ <;> decide)
    simp only [zW, zX, zD, builtinA, isLeaf, const1, ustrA, simprocAttr, ti3, ti9, ti38, ti62, ti91, ti95, ti97, ca58, ca59, ca60, za97, cf, Tryz.results24, hc0]
    exact .inl ⟨none, .inr ⟨hn, rfl⟩, _, [], rfl, .inl ⟨rfl, rfl, rfl⟩, by simp, by simp, by simp, fun i hi => Abs.getD_append_left hi⟩
end Go.Proofs.YtapkacochknndaaGreat
