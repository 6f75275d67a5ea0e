/- Valid expressions, node by node; the model's MaxFree. -/
import Derived.Test.YtebgneaehhaclaaGreatExVal
import Derived.Test.YtebgneaehhaclaaGreatAbsW3
set_option linter.unusedVariables false
set_option linter.unusedSimpArgs false
namespace Go.Proofs.YtebgneaehhaclaaGreat
open Go.Abs

def kindE : VE → Int
  | .var _ => 1
  | .num _ => 2
  | .nm _ _ => 3
  | .fn _ _ => 4
  | .app _ _ => 5
  | .add _ _ => 6
  | .ite _ _ _ => 7
def nE : VE → Int
  | .var i => i
  | .num i => i
  | _ => 0
def modE : VE → List UInt8
  | .nm m _ => m
  | _ => []
def nameE : VE → List UInt8
  | .nm _ n => n
  | _ => []
def argE : VE → Ty
  | .fn t _ => toTy t
  | _ => ty0
def kidsE : VE → List VE
  | .fn _ b => [b]
  | .app a b => [a, b]
  | .add a b => [a, b]
  | .ite c a b => [c, a, b]
  | _ => []
theorem toX_node (v : VE) : toX v = .mk (kindE v) (nE v) (modE v) (nameE v) (argE v) ((kidsE v).map toX) := by
  cases v <;> simp [toX, kindE, nE, modE, nameE, argE, kidsE]
def rowsE (v : VE) : List (List AV) := encXs ((kidsE v).map toX)
theorem encX_node (v : VE) : encX (toX v) = [.int .i64 (kindE v), .int .i64 (nE v), .str (modE v), .str (nameE v), .int .i64 (argE v).kind, .str (argE v).mod, .str (argE v).name, .slice (encs (argE v).kids), .slice (rowsE v)] := by
  rw [toX_node, encX, rowsE]
theorem rowsE_length (v : VE) : (rowsE v).length = (kidsE v).length := by rw [rowsE, encXs_length]; simp
def ve0 : VE := .num 0
theorem rowsE_getD {v : VE} {i : Nat} (h : i < (kidsE v).length) : (rowsE v).getD i [] = encX (toX ((kidsE v).getD i ve0)) := by
  rw [rowsE, encXs_getD (by simpa using h)]
  simp [List.getD, h]
theorem kid_mem {v : VE} {i : Nat} (h : i < (kidsE v).length) : (kidsE v).getD i ve0 ∈ kidsE v := by simp [List.getD, h]
theorem kidsE_le (v : VE) : (kidsE v).length ≤ 3 := by cases v <;> simp [kidsE]
theorem VE.indK {M : VE → Prop} (h : ∀ v, (∀ k ∈ kidsE v, M k) → M v) : ∀ v, M v
  | .var i => h _ (by simp [kidsE])
  | .num i => h _ (by simp [kidsE])
  | .nm m n => h _ (by simp [kidsE])
  | .fn t b => h _ (by simp [kidsE]; exact VE.indK h b)
  | .app a b => h _ (by simp [kidsE]; exact ⟨VE.indK h a, VE.indK h b⟩)
  | .add a b => h _ (by simp [kidsE]; exact ⟨VE.indK h a, VE.indK h b⟩)
  | .ite c a b => h _ (by simp [kidsE]; exact ⟨VE.indK h c, VE.indK h a, VE.indK h b⟩)
theorem depE_kid {v k : VE} (h : k ∈ kidsE v) : depE k + 1 ≤ depE v := by
  cases v <;> simp [kidsE] at h
  · subst h; simp [depE]; omega
  · rcases h with rfl | rfl <;> simp [depE] <;> omega
  · rcases h with rfl | rfl <;> simp [depE] <;> omega
  · rcases h with rfl | rfl | rfl <;> simp [depE] <;> omega
theorem okE_kid {v k : VE} (ho : okE v) (h : k ∈ kidsE v) : okE k := by
  cases v <;> simp [kidsE] at h
  · subst h; exact ho.2
  · rcases h with rfl | rfl
    · exact ho.1
    · exact ho.2
  · rcases h with rfl | rfl
    · exact ho.1
    · exact ho.2
  · rcases h with rfl | rfl | rfl
    · exact ho.1
    · exact ho.2.1
    · exact ho.2.2
theorem nE_ok {v : VE} (ho : okE v) : 0 ≤ nE v ∧ nE v ≤ 99 := by
  cases v <;> simp only [nE, okE] at ho ⊢ <;> omega

/-! ### variables -/
def inE (v : VE) (d : Int) : Int := if kindE v = 4 then d + 1 else d
def mostE : VE → Int → Int
  | .var i, d => if d ≤ i then i - d + 1 else 0
  | .num _, _ => 0
  | .nm _ _, _ => 0
  | .fn _ b, d => max 0 (mostE b (d + 1))
  | .app a b, d => max (max 0 (mostE a d)) (mostE b d)
  | .add a b, d => max (max 0 (mostE a d)) (mostE b d)
  | .ite c a b, d => max (max (max 0 (mostE c d)) (mostE a d)) (mostE b d)
def most0 (v : VE) (d : Int) : Int := if kindE v = 1 ∧ d ≤ nE v then nE v - d + 1 else 0
def mostI (v : VE) (d : Int) (i : Nat) : Int := ((kidsE v).take i).foldl (fun m k => max m (mostE k (inE v d))) (most0 v d)
theorem mostI_all (v : VE) (d : Int) : mostI v d (kidsE v).length = mostE v d := by
  cases v <;> simp [mostI, kidsE, mostE, most0, kindE, inE, nE]
theorem mostI_zero (v : VE) (d : Int) : mostI v d 0 = most0 v d := by simp [mostI]
theorem mostI_succ {v : VE} {d : Int} {i : Nat} (h : i < (kidsE v).length) : mostI v d (i + 1) = max (mostI v d i) (mostE ((kidsE v).getD i ve0) (inE v d)) := by
  have e : (kidsE v).take (i + 1) = (kidsE v).take i ++ [(kidsE v).getD i ve0] := by rw [List.take_add_one]; simp [List.getD, h]
  unfold mostI
  rw [e, List.foldl_append]
  rfl
theorem mostE_le : ∀ (v : VE) (d : Int), okE v → 0 ≤ d → 0 ≤ mostE v d ∧ mostE v d ≤ 13
  | .var i, d, h, hd => by simp only [okE] at h; simp only [mostE]; split <;> omega
  | .num _, _, _, _ => by simp [mostE]
  | .nm _ _, _, _, _ => by simp [mostE]
  | .fn _ b, d, h, hd => by have := mostE_le b (d + 1) h.2 (by omega); simp only [mostE]; omega
  | .app a b, d, h, hd => by have := mostE_le a d h.1 hd; have := mostE_le b d h.2 hd; simp only [mostE]; omega
  | .add a b, d, h, hd => by have := mostE_le a d h.1 hd; have := mostE_le b d h.2 hd; simp only [mostE]; omega
  | .ite c a b, d, h, hd => by have := mostE_le c d h.1 hd; have := mostE_le a d h.2.1 hd; have := mostE_le b d h.2.2 hd; simp only [mostE]; omega

set_option maxRecDepth 100000 in
theorem spec_l4Most (v : VE) : ∀ (d : Int) (A : List Box), okE v → 0 ≤ d → d + depE v ≤ 1000 → ACalls Tryz.prog 89 [.agg (encX (toX v)), .int .i64 d] A (fun r A' => r = .int .i64 (mostE v d) ∧ A' = A) := by
  induction v using VE.indK with
  | h v ih =>
    intro d A ho h0 h1
    have hn := nE_ok ho
    have hdp := depE_pos v
    have hw1 : IntKind.i64.wrap (nE v - d) = nE v - d := wrap64 (by omega) (by omega)
    have hw2 : IntKind.i64.wrap (nE v - d + 1) = nE v - d + 1 := wrap64 (by omega) (by omega)
    have hw3 : IntKind.i64.wrap (d + 1) = d + 1 := wrap64 (by omega) (by omega)
    have hl := rowsE_length v
    have hk3 := kidsE_le v
    have hfin : ∀ (m0 d0 : Int), m0 = most0 v d → d0 = inE v d → 0 ≤ d0 ∧ d0 ≤ d + 1 := fun m0 d0 h1 h2 => by subst h2; unfold inE; split <;> omega
    have hm0 : 0 ≤ most0 v d ∧ most0 v d ≤ 100 := by unfold most0; split <;> omega
    have hmI : ∀ j, j ≤ (kidsE v).length → 0 ≤ mostI v d j := fun j hj => by
      induction j with
      | zero => rw [mostI_zero]; exact hm0.1
      | succ j ihj => rw [mostI_succ (by omega)]; have := ihj (by omega); omega
    rw [encX_node]
    have hin : 0 ≤ inE v d ∧ inE v d ≤ d + 1 := hfin _ _ rfl rfl
    have n4 : ¬ (1 : Int) = 4 := by decide
    have n1 : ¬ (4 : Int) = 1 := by decide
    have hcase : (kindE v = 1 ∧ d ≤ nE v) ∨ (kindE v = 1 ∧ ¬ d ≤ nE v) ∨ (kindE v = 4) ∨ (¬ kindE v = 1 ∧ ¬ kindE v = 4) := by
      by_cases h1 : kindE v = 1
      · by_cases h2 : d ≤ nE v
        · exact .inl ⟨h1, h2⟩
        · exact .inr (.inl ⟨h1, h2⟩)
      · by_cases h2 : kindE v = 4
        · exact .inr (.inr (.inl h2))
        · exact .inr (.inr (.inr ⟨h1, h2⟩))
    generalize hcs : [AV.int .i64 (kindE v), .int .i64 (nE v), .str (modE v), .str (nameE v), .int .i64 (argE v).kind, .str (argE v).mod, .str (argE v).name, .slice (encs (argE v).kids), .slice (rowsE v)] = cs
    rcases hcase with ⟨k1, h2⟩ | ⟨k1, h2⟩ | k4 | ⟨k1, k4⟩
    · have e1 : mostI v d 0 = nE v - d + 1 := by rw [mostI_zero, most0, if_pos ⟨k1, h2⟩]
      have e2 : inE v d = d := by rw [inE, if_neg (by rw [k1]; decide)]
      have k4 : ¬ kindE v = 4 := by rw [k1]; decide
      have g1 : decide (nE v ≥ d) = true := decide_eq_true h2
      subst hcs
      refine acalls_enter (cf := cf 46 [0, 1, 2, 4, 5, 6, 7, 16, 24, 31, 43]) foll Tryz.func89 Tryz.ntmps89 (by simp [cf]) ?_
      simp only [Tryz.f89, EnterK_some, zW, zX, zD, builtinA, isLeaf, const1, ustrA, simprocAttr, ti3, ti52, ti54, ca89, cf, Tryz.results89]
      simp only [zW, zX, zD, builtinA, isLeaf, const1, ustrA, simprocAttr, ti3, ti52, ti54, ca89, cf, Tryz.results89, decide_eq_true k1, decide_eq_false k4, decide_eq_true h2, g1, hw1, hw2]
      refine aloop_intro [1, 2, 5, 6] (fun e A' => ∃ j, j ≤ (kidsE v).length ∧ e = [(1, .int .i64 (inE v d)), (2, .ptr A.length 0), (5, .int .i64 (mostI v d j)), (6, .int .i64 j)] ∧ A' = A ++ [.cells [.int .i64 (kindE v), .int .i64 (nE v), .str (modE v), .str (nameE v), .int .i64 (argE v).kind, .str (argE v).mod, .str (argE v).name, .slice (encs (argE v).kids), .slice (rowsE v)]]) (fun e _ => (kidsE v).length - (intOf (Abs.look 6 e)).toNat) ?_ ?_
      · refine ⟨0, by omega, ?_, rfl⟩
        rw [e1, e2]
        rfl
      · rintro e A' ⟨j, hj, rfl, rfl⟩
        by_cases hlt : j < (kidsE v).length
        · have dl : decide ((j : Int) < ((kidsE v).length : Nat)) = true := decide_eq_true (by omega)
          have hg := rowsE_getD hlt
          have hm := kid_mem hlt
          have hdk := depE_kid hm
          have hi1 : IntKind.i64.wrap ((j : Int) + 1) = ((j + 1 : Nat) : Int) := by rw [wrap64 (by omega) (by omega)]; rfl
          simp only [zW, zX, zD, builtinA, isLeaf, const1, ustrA, simprocAttr, ti3, ti52, ti54, ca89, cf, Tryz.results89, hl, dl, hg, encX_length, encX_take]
          refine ⟨⟨by omega, by omega⟩, ?_⟩
          refine callK_intro (by simp only [zW, zX, zD, builtinA, isLeaf, const1, ustrA, simprocAttr, frzL_encX, Option.map_some]; rfl) (ih _ hm _ _ (okE_kid ho hm) hin.1 (by omega)) ?_ rfl; rintro v A' ⟨rfl, rfl⟩
          have hs := mostI_succ (d := d) hlt
          by_cases hq : mostI v d j < mostE ((kidsE v).getD j ve0) (inE v d)
          · have g2 : decide (mostE ((kidsE v).getD j ve0) (inE v d) > mostI v d j) = true := decide_eq_true hq
            have hs2 : mostI v d (j + 1) = mostE ((kidsE v).getD j ve0) (inE v d) := by rw [hs]; omega
            simp only [zW, zX, zD, builtinA, isLeaf, const1, ustrA, simprocAttr, ti3, ti52, ti54, ca89, cf, Tryz.results89, decide_eq_true hq, g2, hi1, LoopK_eq]
            refine ⟨⟨j + 1, by omega, by rw [hs2]⟩, ?_⟩
            simp only [intOf]
            omega
          · have g2 : decide (mostE ((kidsE v).getD j ve0) (inE v d) > mostI v d j) = false := decide_eq_false hq
            have hs2 : mostI v d (j + 1) = mostI v d j := by rw [hs]; omega
            simp only [zW, zX, zD, builtinA, isLeaf, const1, ustrA, simprocAttr, ti3, ti52, ti54, ca89, cf, Tryz.results89, decide_eq_false hq, g2, hi1, LoopK_eq]
            refine ⟨⟨j + 1, by omega, by rw [hs2]⟩, ?_⟩
            simp only [intOf]
            omega
        · have dl : decide ((j : Int) < ((kidsE v).length : Nat)) = false := decide_eq_false (by omega)
          have : j = (kidsE v).length := by omega
          subst this
          simp only [zW, zX, zD, builtinA, isLeaf, const1, ustrA, simprocAttr, ti3, ti52, ti54, ca89, cf, Tryz.results89, hl, dl]
          rw [mostI_all]
    · have e1 : mostI v d 0 = 0 := by rw [mostI_zero, most0, if_neg (fun h => h2 h.2)]
      have e2 : inE v d = d := by rw [inE, if_neg (by rw [k1]; decide)]
      have k4 : ¬ kindE v = 4 := by rw [k1]; decide
      have g1 : decide (nE v ≥ d) = false := decide_eq_false h2
      subst hcs
      refine acalls_enter (cf := cf 46 [0, 1, 2, 4, 5, 6, 7, 16, 24, 31, 43]) foll Tryz.func89 Tryz.ntmps89 (by simp [cf]) ?_
      simp only [Tryz.f89, EnterK_some, zW, zX, zD, builtinA, isLeaf, const1, ustrA, simprocAttr, ti3, ti52, ti54, ca89, cf, Tryz.results89]
      simp only [zW, zX, zD, builtinA, isLeaf, const1, ustrA, simprocAttr, ti3, ti52, ti54, ca89, cf, Tryz.results89, decide_eq_true k1, decide_eq_false k4, decide_eq_false h2, g1, hw1, hw2]
      refine aloop_intro [1, 2, 5, 6] (fun e A' => ∃ j, j ≤ (kidsE v).length ∧ e = [(1, .int .i64 (inE v d)), (2, .ptr A.length 0), (5, .int .i64 (mostI v d j)), (6, .int .i64 j)] ∧ A' = A ++ [.cells [.int .i64 (kindE v), .int .i64 (nE v), .str (modE v), .str (nameE v), .int .i64 (argE v).kind, .str (argE v).mod, .str (argE v).name, .slice (encs (argE v).kids), .slice (rowsE v)]]) (fun e _ => (kidsE v).length - (intOf (Abs.look 6 e)).toNat) ?_ ?_
      · refine ⟨0, by omega, ?_, rfl⟩
        rw [e1, e2]
        rfl
      · rintro e A' ⟨j, hj, rfl, rfl⟩
        by_cases hlt : j < (kidsE v).length
        · have dl : decide ((j : Int) < ((kidsE v).length : Nat)) = true := decide_eq_true (by omega)
          have hg := rowsE_getD hlt
          have hm := kid_mem hlt
          have hdk := depE_kid hm
          have hi1 : IntKind.i64.wrap ((j : Int) + 1) = ((j + 1 : Nat) : Int) := by rw [wrap64 (by omega) (by omega)]; rfl
          simp only [zW, zX, zD, builtinA, isLeaf, const1, ustrA, simprocAttr, ti3, ti52, ti54, ca89, cf, Tryz.results89, hl, dl, hg, encX_length, encX_take]
          refine ⟨⟨by omega, by omega⟩, ?_⟩
          refine callK_intro (by simp only [zW, zX, zD, builtinA, isLeaf, const1, ustrA, simprocAttr, frzL_encX, Option.map_some]; rfl) (ih _ hm _ _ (okE_kid ho hm) hin.1 (by omega)) ?_ rfl; rintro v A' ⟨rfl, rfl⟩
          have hs := mostI_succ (d := d) hlt
          by_cases hq : mostI v d j < mostE ((kidsE v).getD j ve0) (inE v d)
          · have g2 : decide (mostE ((kidsE v).getD j ve0) (inE v d) > mostI v d j) = true := decide_eq_true hq
            have hs2 : mostI v d (j + 1) = mostE ((kidsE v).getD j ve0) (inE v d) := by rw [hs]; omega
            simp only [zW, zX, zD, builtinA, isLeaf, const1, ustrA, simprocAttr, ti3, ti52, ti54, ca89, cf, Tryz.results89, decide_eq_true hq, g2, hi1, LoopK_eq]
            refine ⟨⟨j + 1, by omega, by rw [hs2]⟩, ?_⟩
            simp only [intOf]
            omega
          · have g2 : decide (mostE ((kidsE v).getD j ve0) (inE v d) > mostI v d j) = false := decide_eq_false hq
            have hs2 : mostI v d (j + 1) = mostI v d j := by rw [hs]; omega
            simp only [zW, zX, zD, builtinA, isLeaf, const1, ustrA, simprocAttr, ti3, ti52, ti54, ca89, cf, Tryz.results89, decide_eq_false hq, g2, hi1, LoopK_eq]
            refine ⟨⟨j + 1, by omega, by rw [hs2]⟩, ?_⟩
            simp only [intOf]
            omega
        · have dl : decide ((j : Int) < ((kidsE v).length : Nat)) = false := decide_eq_false (by omega)
          have : j = (kidsE v).length := by omega
          subst this
          simp only [zW, zX, zD, builtinA, isLeaf, const1, ustrA, simprocAttr, ti3, ti52, ti54, ca89, cf, Tryz.results89, hl, dl]
          rw [mostI_all]
    · have k1 : ¬ kindE v = 1 := by rw [k4]; decide
      have e1 : mostI v d 0 = 0 := by rw [mostI_zero, most0, if_neg (fun h => k1 h.1)]
      have e2 : inE v d = d + 1 := by rw [inE, if_pos k4]
      subst hcs
      refine acalls_enter (cf := cf 46 [0, 1, 2, 4, 5, 6, 7, 16, 24, 31, 43]) foll Tryz.func89 Tryz.ntmps89 (by simp [cf]) ?_
      simp only [Tryz.f89, EnterK_some, zW, zX, zD, builtinA, isLeaf, const1, ustrA, simprocAttr, ti3, ti52, ti54, ca89, cf, Tryz.results89]
      simp only [zW, zX, zD, builtinA, isLeaf, const1, ustrA, simprocAttr, ti3, ti52, ti54, ca89, cf, Tryz.results89, decide_eq_false k1, decide_eq_true k4, hw3]
      refine aloop_intro [1, 2, 5, 6] (fun e A' => ∃ j, j ≤ (kidsE v).length ∧ e = [(1, .int .i64 (inE v d)), (2, .ptr A.length 0), (5, .int .i64 (mostI v d j)), (6, .int .i64 j)] ∧ A' = A ++ [.cells [.int .i64 (kindE v), .int .i64 (nE v), .str (modE v), .str (nameE v), .int .i64 (argE v).kind, .str (argE v).mod, .str (argE v).name, .slice (encs (argE v).kids), .slice (rowsE v)]]) (fun e _ => (kidsE v).length - (intOf (Abs.look 6 e)).toNat) ?_ ?_
      · refine ⟨0, by omega, ?_, rfl⟩
        rw [e1, e2]
        rfl
      · rintro e A' ⟨j, hj, rfl, rfl⟩
        by_cases hlt : j < (kidsE v).length
        · have dl : decide ((j : Int) < ((kidsE v).length : Nat)) = true := decide_eq_true (by omega)
          have hg := rowsE_getD hlt
          have hm := kid_mem hlt
          have hdk := depE_kid hm
          have hi1 : IntKind.i64.wrap ((j : Int) + 1) = ((j + 1 : Nat) : Int) := by rw [wrap64 (by omega) (by omega)]; rfl
          simp only [zW, zX, zD, builtinA, isLeaf, const1, ustrA, simprocAttr, ti3, ti52, ti54, ca89, cf, Tryz.results89, hl, dl, hg, encX_length, encX_take]
          refine ⟨⟨by omega, by omega⟩, ?_⟩
          refine callK_intro (by simp only [zW, zX, zD, builtinA, isLeaf, const1, ustrA, simprocAttr, frzL_encX, Option.map_some]; rfl) (ih _ hm _ _ (okE_kid ho hm) hin.1 (by omega)) ?_ rfl; rintro v A' ⟨rfl, rfl⟩
          have hs := mostI_succ (d := d) hlt
          by_cases hq : mostI v d j < mostE ((kidsE v).getD j ve0) (inE v d)
          · have g2 : decide (mostE ((kidsE v).getD j ve0) (inE v d) > mostI v d j) = true := decide_eq_true hq
            have hs2 : mostI v d (j + 1) = mostE ((kidsE v).getD j ve0) (inE v d) := by rw [hs]; omega
            simp only [zW, zX, zD, builtinA, isLeaf, const1, ustrA, simprocAttr, ti3, ti52, ti54, ca89, cf, Tryz.results89, decide_eq_true hq, g2, hi1, LoopK_eq]
            refine ⟨⟨j + 1, by omega, by rw [hs2]⟩, ?_⟩
            simp only [intOf]
            omega
          · have g2 : decide (mostE ((kidsE v).getD j ve0) (inE v d) > mostI v d j) = false := decide_eq_false hq
            have hs2 : mostI v d (j + 1) = mostI v d j := by rw [hs]; omega
            simp only [zW, zX, zD, builtinA, isLeaf, const1, ustrA, simprocAttr, ti3, ti52, ti54, ca89, cf, Tryz.results89, decide_eq_false hq, g2, hi1, LoopK_eq]
            refine ⟨⟨j + 1, by omega, by rw [hs2]⟩, ?_⟩
            simp only [intOf]
            omega
        · have dl : decide ((j : Int) < ((kidsE v).length : Nat)) = false := decide_eq_false (by omega)
          have : j = (kidsE v).length := by omega
          subst this
          simp only [zW, zX, zD, builtinA, isLeaf, const1, ustrA, simprocAttr, ti3, ti52, ti54, ca89, cf, Tryz.results89, hl, dl]
          rw [mostI_all]
    · have e1 : mostI v d 0 = 0 := by rw [mostI_zero, most0, if_neg (fun h => k1 h.1)]
      have e2 : inE v d = d := by rw [inE, if_neg k4]
      subst hcs
      refine acalls_enter (cf := cf 46 [0, 1, 2, 4, 5, 6, 7, 16, 24, 31, 43]) foll Tryz.func89 Tryz.ntmps89 (by simp [cf]) ?_
      simp only [Tryz.f89, EnterK_some, zW, zX, zD, builtinA, isLeaf, const1, ustrA, simprocAttr, ti3, ti52, ti54, ca89, cf, Tryz.results89]
      simp only [zW, zX, zD, builtinA, isLeaf, const1, ustrA, simprocAttr, ti3, ti52, ti54, ca89, cf, Tryz.results89, decide_eq_false k1, decide_eq_false k4]
      refine aloop_intro [1, 2, 5, 6] (fun e A' => ∃ j, j ≤ (kidsE v).length ∧ e = [(1, .int .i64 (inE v d)), (2, .ptr A.length 0), (5, .int .i64 (mostI v d j)), (6, .int .i64 j)] ∧ A' = A ++ [.cells [.int .i64 (kindE v), .int .i64 (nE v), .str (modE v), .str (nameE v), .int .i64 (argE v).kind, .str (argE v).mod, .str (argE v).name, .slice (encs (argE v).kids), .slice (rowsE v)]]) (fun e _ => (kidsE v).length - (intOf (Abs.look 6 e)).toNat) ?_ ?_
      · refine ⟨0, by omega, ?_, rfl⟩
        rw [e1, e2]
        rfl
      · rintro e A' ⟨j, hj, rfl, rfl⟩
        by_cases hlt : j < (kidsE v).length
        · have dl : decide ((j : Int) < ((kidsE v).length : Nat)) = true := decide_eq_true (by omega)
          have hg := rowsE_getD hlt
          have hm := kid_mem hlt
          have hdk := depE_kid hm
          have hi1 : IntKind.i64.wrap ((j : Int) + 1) = ((j + 1 : Nat) : Int) := by rw [wrap64 (by omega) (by omega)]; rfl
          simp only [zW, zX, zD, builtinA, isLeaf, const1, ustrA, simprocAttr, ti3, ti52, ti54, ca89, cf, Tryz.results89, hl, dl, hg, encX_length, encX_take]
          refine ⟨⟨by omega, by omega⟩, ?_⟩
          refine callK_intro (by simp only [zW, zX, zD, builtinA, isLeaf, const1, ustrA, simprocAttr, frzL_encX, Option.map_some]; rfl) (ih _ hm _ _ (okE_kid ho hm) hin.1 (by omega)) ?_ rfl; rintro v A' ⟨rfl, rfl⟩
          have hs := mostI_succ (d := d) hlt
          by_cases hq : mostI v d j < mostE ((kidsE v).getD j ve0) (inE v d)
          · have g2 : decide (mostE ((kidsE v).getD j ve0) (inE v d) > mostI v d j) = true := decide_eq_true hq
            have hs2 : mostI v d (j + 1) = mostE ((kidsE v).getD j ve0) (inE v d) := by rw [hs]; omega
            simp only [zW, zX, zD, builtinA, isLeaf, const1, ustrA, simprocAttr, ti3, ti52, ti54, ca89, cf, Tryz.results89, decide_eq_true hq, g2, hi1, LoopK_eq]
            refine ⟨⟨j + 1, by omega, by rw [hs2]⟩, ?_⟩
            simp only [intOf]
            omega
          · have g2 : decide (mostE ((kidsE v).getD j ve0) (inE v d) > mostI v d j) = false := decide_eq_false hq
            have hs2 : mostI v d (j + 1) = mostI v d j := by rw [hs]; omega
            simp only [zW, zX, zD, builtinA, isLeaf, const1, ustrA, simprocAttr, ti3, ti52, ti54, ca89, cf, Tryz.results89, decide_eq_false hq, g2, hi1, LoopK_eq]
            refine ⟨⟨j + 1, by omega, by rw [hs2]⟩, ?_⟩
            simp only [intOf]
            omega
        · have dl : decide ((j : Int) < ((kidsE v).length : Nat)) = false := decide_eq_false (by omega)
          have : j = (kidsE v).length := by omega
          subst this
          simp only [zW, zX, zD, builtinA, isLeaf, const1, ustrA, simprocAttr, ti3, ti52, ti54, ca89, cf, Tryz.results89, hl, dl]
          rw [mostI_all]
end Go.Proofs.YtebgneaehhaclaaGreat
