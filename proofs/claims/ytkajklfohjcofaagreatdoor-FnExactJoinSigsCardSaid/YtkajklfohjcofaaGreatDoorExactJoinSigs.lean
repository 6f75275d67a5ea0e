/- For every two lists of items the program's JoinSigs answers as the model's JoinSigs does, in every field; what it hands back is memory of its own, which neither writing into the arguments nor a second call changes, and the arguments are not changed. No condition beside the row's own. -/
import Derived.Test.YtkajklfohjcofaaGreatDoorJ14
set_option linter.unusedVariables false
set_option linter.unusedSimpArgs false
namespace Go.Proofs.YtkajklfohjcofaaGreatDoor
open Go.Abs Go.RowKit Go.ChangeShapes Go.WideShapes Go.ChangeAt Go.ChangeMaps

theorem totG_bd : ∀ l : List SigI, (∀ x ∈ l, sz x.typ ≤ 1048576) → totG l ≤ 4000000 * l.length
  | [], _ => by simp [totG]
  | b :: bs, h => by
    have h0 := h b (by simp)
    have h1 := totG_bd bs fun x hx => h x (by simp [hx])
    have h2 := counts_le_szG b.typ.kids
    have h3 : b.typ.kids.length + szs b.typ.kids ≤ sz b.typ := by cases b.typ; rw [sz]; simp [Ty.kids]
    rw [totG, List.length_cons]; omega
theorem jnO_ok {a b : List SigI} (ha : ∀ x ∈ a, x.Ok) (hb : ∀ x ∈ b, x.Ok) {o : Option (List SigI)} (h : JnIs a b o) : (o.getD []).length ≤ 16 ∧ (∀ x ∈ o.getD [], x.Ok) ∧ totG (o.getD []) ≤ 64000000 := by
  have key : ∀ xs : List SigI, xs.length ≤ 16 → (∀ x ∈ xs, x.Ok ∧ sz x.typ ≤ 1048576) → xs.length ≤ 16 ∧ (∀ x ∈ xs, x.Ok) ∧ totG xs ≤ 64000000 := fun xs h1 h2 => ⟨h1, fun x hx => (h2 x hx).1, by have := totG_bd xs fun x hx => (h2 x hx).2; omega⟩
  rcases h with ⟨ys, zs, c, c', p, p', h8, h8', hr, hr', hord, hord', hM, hM', rfl⟩ | ⟨hn, rfl⟩
  · obtain ⟨h1, h2⟩ := jn_ok ha hb h8 h8' hr hr'
    split
    · exact key _ h1 h2
    · exact key [] (by simp) (by simp)
  · exact key [] (by simp) (by simp)

set_option maxRecDepth 100000 in
set_option maxHeartbeats 4000000 in
theorem exactJoinSigs_true (a : List SigI) (hao : SigsOk a) (b : List SigI) (hbo : SigsOk b) : ACalls Tryz.prog 6 [.aslice (sEAs a), .aslice (sEAs b)] [] (fun v _ => v = .bool true) := by
  obtain ⟨hal, hao⟩ := hao
  obtain ⟨hbl, hbo⟩ := hbo
  have hsza := fun A l h1 h2 => laws_szSigItemS a hal hao l A h1 h2
  have hszb := fun A l h1 h2 => laws_szSigItemS b hbl hbo l A h1 h2
  by_cases hs1 : ((a.length + szIs a : Nat) : Int) ≤ 1048576
  · have hv1 : left 1048576 (a.length + szIs a) = 1048576 - (a.length + szIs a : Nat) := by rw [left, if_pos (by omega)]
    have hn1 : decide ((1048576 : Int) - (a.length + szIs a : Nat) < 0) = false := decide_eq_false (by omega)
    by_cases hs2 : ((b.length + szIs b : Nat) : Int) ≤ 1048576 - (a.length + szIs a : Nat)
    · have hv2 : left (1048576 - (a.length + szIs a : Nat)) (b.length + szIs b) = 1048576 - (a.length + szIs a : Nat) - (b.length + szIs b : Nat) := by rw [left, if_pos (by omega)]
      have hn2 : decide ((1048576 : Int) - (a.length + szIs a : Nat) - (b.length + szIs b : Nat) < 0) = false := decide_eq_false (by omega)
      have haz : ∀ x ∈ a, szI x ≤ 1048576 := fun x hx => by have := szIs_mem hx; omega
      have hao2 : ∀ x ∈ a, x.Ok ∧ sz x.typ ≤ 1048576 := fun x hx => ⟨hao x hx, by have := haz x hx; rw [szI] at this; omega⟩
      have hbz : ∀ x ∈ b, szI x ≤ 1048576 := fun x hx => by have := szIs_mem hx; omega
      have hbo2 : ∀ x ∈ b, x.Ok ∧ sz x.typ ≤ 1048576 := fun x hx => ⟨hbo x hx, by have := hbz x hx; rw [szI] at this; omega⟩
      obtain ⟨o, ho⟩ := jnIs_ex a b
      obtain ⟨xs, hxs⟩ : ∃ xs, xs = o.getD [] := ⟨_, rfl⟩
      have hx1 := jnO_ok hao hbo ho
      rw [← hxs] at hx1
      obtain ⟨hxl, hxo, hxc⟩ := hx1
      have hspec : ∀ A, ACalls Tryz.prog 24 [.slice (sEs a), .slice (sEs b)] A (fun r A' => r = .tuple [.slice (sEs xs), .bool o.isSome] ∧ A' = A) := fun A => by
        rw [hxs]; exact spec_JoinSigs a b (by omega) hao2 (by omega) hbo2 ho A
      have himpl : ∀ A, ACalls Tryz.prog 25 [.slice (sEs a), .slice (sEs b)] A (SgNew A xs o.isSome) := sg_call fun A => (impl_JoinSigs a b (by omega) hao2 (by omega) hbo2 A).mono fun r A' h => by
        obtain ⟨o', h1, h2⟩ := h
        rw [jnIs_one h1 ho] at h2
        rw [hxs]; exact h2
      have himb : ∀ (A : List Box) (args : List AV), Views A args [.slice (sEs a), .slice (sEs b)] → ACalls Tryz.prog 25 args A (SgNew A xs o.isSome) := fun A args h => sg_view himpl h
      generalize o.isSome = ok at hspec himpl himb
      clear ho hxs
      have htoa := laws_toSigItemS a (by omega) (by omega)
      have heqa := laws_eqSigItemS a hal hao
      have htan := toSigIS_own a (by omega) haz
      have hta := totG_sz a
      have htob := laws_toSigItemS b (by omega) (by omega)
      have heqb := laws_eqSigItemS b hbl hbo
      have htbn := toSigIS_own b (by omega) hbz
      have htb := totG_sz b
      have heqx := laws_eqSigItemS xs (by omega) hxo
      have hge1 : decide ((1 : Int) + (totG a : Int) + (totG b : Int) < 0) = false := decide_eq_false (by omega)
      have hge2 : decide ((1 : Int) + (totG xs : Int) < 0) = false := decide_eq_false (by omega)
      have hne : ∀ x : Int, decide (¬ x = x) = false := fun x => by simp
      have hnb : decide (¬ ok = ok) = false := by simp
      refine acalls_enter (cf := cf 119 [0, 1, 4, 5, 6, 7, 8, 9, 10, 11, 12, 13, 14, 15, 16, 21, 26, 53, 58, 63, 82, 90, 93, 110, 115, 118]) foll Tryz.func6 Tryz.ntmps6 (by simp [cf]) ?_
      simp only [Tryz.f6, EnterK_some, zW, zX, zD, builtinA, isLeaf, const1, ustrA, simprocAttr, ti3, ti4, ca15, ca17, ca19, ca24, ca25, ca26, ca27, cf, Tryz.results6]
      refine callK_intro (by simp only [zW, zX, zD, builtinA, isLeaf, const1, ustrA, simprocAttr, Option.map_some]; rfl) (hsza _ _ (by omega) (by omega)) ?_ rfl; rintro v A' ⟨rfl, rfl⟩
      rw [hv1]
      simp only [zW, zX, zD, builtinA, isLeaf, const1, ustrA, simprocAttr, ti3, ti4, ca15, ca17, ca19, ca24, ca25, ca26, ca27, cf, Tryz.results6, hn1]
      refine callK_intro (by simp only [zW, zX, zD, builtinA, isLeaf, const1, ustrA, simprocAttr, Option.map_some]; rfl) (hszb _ _ (by omega) (by omega)) ?_ rfl; rintro v A' ⟨rfl, rfl⟩
      rw [hv2]
      simp only [zW, zX, zD, builtinA, isLeaf, const1, ustrA, simprocAttr, ti3, ti4, ca15, ca17, ca19, ca24, ca25, ca26, ca27, cf, Tryz.results6, hn2]
      refine callK_intro (by simp only [zW, zX, zD, builtinA, isLeaf, const1, ustrA, simprocAttr, Option.map_some]; rfl) (htoa _) ?_ rfl; rintro v A' ⟨rfl, rfl⟩
      simp only [zW, zX, zD, builtinA, isLeaf, const1, ustrA, simprocAttr, ti3, ti4, ca15, ca17, ca19, ca24, ca25, ca26, ca27, cf, Tryz.results6]
      refine callK_intro (by simp only [zW, zX, zD, builtinA, isLeaf, const1, ustrA, simprocAttr, Option.map_some]; rfl) (htob _) ?_ rfl; rintro v A' ⟨rfl, rfl⟩
      simp only [zW, zX, zD, builtinA, isLeaf, const1, ustrA, simprocAttr, ti3, ti4, ca15, ca17, ca19, ca24, ca25, ca26, ca27, cf, Tryz.results6]
      refine callK_intro (by simp only [zW, zX, zD, builtinA, isLeaf, const1, ustrA, simprocAttr, Option.map_some]; rfl) (hspec _) ?_ rfl; rintro v A' ⟨rfl, rfl⟩
      simp only [zW, zX, zD, builtinA, isLeaf, const1, ustrA, simprocAttr, ti3, ti4, ca15, ca17, ca19, ca24, ca25, ca26, ca27, cf, Tryz.results6]
      refine callK_intro (by simp only [zW, zX, zD, builtinA, isLeaf, const1, ustrA, simprocAttr, Option.map_some] <;> rfl) (htan _) ?_ rfl
      rintro r A3 ⟨ja, rfl, hle3, hf3, rowsa, Sa, hga, hRa, hNa, hgea⟩
      have hla : ∀ i ∈ ja :: Sa, i < A3.length := fun i hi => by
        rcases List.mem_cons.1 hi with rfl | hi
        · exact live_lt hga (by simp)
        · exact hRa.low i hi
      clear hf3
      simp only [zW, zX, zD, builtinA, isLeaf, const1, ustrA, simprocAttr, ti3, ti4, ca15, ca17, ca19, ca24, ca25, ca26, ca27, cf, Tryz.results6]
      refine callK_intro (by simp only [zW, zX, zD, builtinA, isLeaf, const1, ustrA, simprocAttr, Option.map_some] <;> rfl) (htbn _) ?_ rfl
      rintro r A4 ⟨jb, rfl, hle4, hf4, rowsb, Sb, hgb, hRb, hNb, hgeb⟩
      have hlb : ∀ i ∈ jb :: Sb, i < A4.length := fun i hi => by
        rcases List.mem_cons.1 hi with rfl | hi
        · exact live_lt hgb (by simp)
        · exact hRb.low i hi
      have hga4 : A4.getD ja .dead = .gr none 6 rowsa := (hf4 ja (hla ja (by simp))).trans hga
      have hRa4 : OwnG A4 a rowsa Sa := hRa.frame fun i hi => hf4 i (hla i (by simp [hi]))
      clear hf4 hga hRa
      simp only [zW, zX, zD, builtinA, isLeaf, const1, ustrA, simprocAttr, ti3, ti4, ca15, ca17, ca19, ca24, ca25, ca26, ca27, cf, Tryz.results6]
      refine callO_intro (himb _ _ (.cons (OwnG.viewG hga4 hRa4) (.cons (OwnG.viewG hgb hRb) .nil))) ?_
      rintro r A5 ⟨B5, v, S5, hA5, hB5, rfl, hv5, hK5, hN5, hR5⟩
      have f5 : ∀ i, i < A4.length → A5.getD i .dead = A4.getD i .dead := fun i hi => by rw [hA5, Abs.getD_append_left hi]
      have ha6 : A5.getD ja .dead = .gr none 6 rowsa := (f5 ja (by have := hla ja (by simp); omega)).trans hga4
      have hA6 : OwnG A5 a rowsa Sa := hRa4.frame fun i hi => f5 i (by have := hla i (by simp [hi]); omega)
      have hb6 : A5.getD jb .dead = .gr none 6 rowsb := (f5 jb (hlb jb (by simp))).trans hgb
      have hB6 : OwnG A5 b rowsb Sb := hRb.frame fun i hi => f5 i (hlb i (by simp [hi]))
      clear f5 hgb hRb hga4 hRa4 hA5
      simp only [zW, zX, zD, builtinA, isLeaf, const1, ustrA, simprocAttr, ti3, ti4, ca15, ca17, ca19, ca24, ca25, ca26, ca27, cf, Tryz.results6]
      refine callO_intro (borrow0 (.cons hK5.view (.cons (.leaf _ rfl) .nil)) rfl heqx) ?_
      rintro r A' ⟨rfl, rfl⟩
      simp only [zW, zX, zD, builtinA, isLeaf, const1, ustrA, simprocAttr, ti3, ti4, ca15, ca17, ca19, ca24, ca25, ca26, ca27, cf, Tryz.results6, hnb]
      refine callK_intro (by simp only [zW, zX, zD, builtinA, isLeaf, const1, ustrA, simprocAttr, Option.map_some]; rfl) (htoa _) ?_ rfl; rintro v A' ⟨rfl, rfl⟩
      simp only [zW, zX, zD, builtinA, isLeaf, const1, ustrA, simprocAttr, ti3, ti4, ca15, ca17, ca19, ca24, ca25, ca26, ca27, cf, Tryz.results6]
      refine callO_intro (borrow0 (.cons (OwnG.viewG ha6 hA6) (.cons (.leaf _ rfl) .nil)) rfl heqa) ?_
      rintro r A' ⟨rfl, rfl⟩
      simp only [zW, zX, zD, builtinA, isLeaf, const1, ustrA, simprocAttr, ti3, ti4, ca15, ca17, ca19, ca24, ca25, ca26, ca27, cf, Tryz.results6]
      refine callK_intro (by simp only [zW, zX, zD, builtinA, isLeaf, const1, ustrA, simprocAttr, Option.map_some]; rfl) (htob _) ?_ rfl; rintro v A' ⟨rfl, rfl⟩
      simp only [zW, zX, zD, builtinA, isLeaf, const1, ustrA, simprocAttr, ti3, ti4, ca15, ca17, ca19, ca24, ca25, ca26, ca27, cf, Tryz.results6]
      refine callO_intro (borrow0 (.cons (OwnG.viewG hb6 hB6) (.cons (.leaf _ rfl) .nil)) rfl heqb) ?_
      rintro r A' ⟨rfl, rfl⟩
      simp only [zW, zX, zD, builtinA, isLeaf, const1, ustrA, simprocAttr, ti3, ti4, ca15, ca17, ca19, ca24, ca25, ca26, ca27, cf, Tryz.results6]
      have hab : ∀ i ∈ jb :: Sb, i ∉ ja :: Sa := fun i hi h => by have := hla i h; have := hgeb i hi; omega
      refine callO_intro (laws_markSigItemS a hal hao _ ja rowsa Sa 1 ha6 hA6 hNa (by omega) (by omega)) ?_
      rintro r A7 ⟨rfl, l7, f7⟩
      have hb7 : A7.getD jb .dead = .gr none 6 rowsb := (f7 jb (hab jb (by simp))).trans hb6
      have hB7 : OwnG A7 b rowsb Sb := hB6.frame fun i hi => f7 i (hab i (by simp [hi]))
      have hK7 : OwnI A7 xs v S5 := hK5.frame fun i hi => f7 i (fun h => by have := hla _ h; have := hR5 i hi; omega)
      clear f7 hb6 hB6 hA6 ha6 hK5
      simp only [zW, zX, zD, builtinA, isLeaf, const1, ustrA, simprocAttr, ti3, ti4, ca15, ca17, ca19, ca24, ca25, ca26, ca27, cf, Tryz.results6]
      refine callO_intro (laws_markSigItemS b hbl hbo _ jb rowsb Sb _ hb7 hB7 hNb (by omega) (by omega)) ?_
      rintro r A8 ⟨rfl, l8, f8⟩
      have hK8 : OwnI A8 xs v S5 := hK7.frame fun i hi => f8 i (fun h => by have := hlb _ h; have := hR5 i hi; omega)
      clear f8 hb7 hB7 hK7
      simp only [zW, zX, zD, builtinA, isLeaf, const1, ustrA, simprocAttr, ti3, ti4, ca15, ca17, ca19, ca24, ca25, ca26, ca27, cf, Tryz.results6, hge1]
      refine callO_intro (borrow0 (.cons hK8.view (.cons (.leaf _ rfl) .nil)) rfl heqx) ?_
      rintro r A' ⟨rfl, rfl⟩
      simp only [zW, zX, zD, builtinA, isLeaf, const1, ustrA, simprocAttr, ti3, ti4, ca15, ca17, ca19, ca24, ca25, ca26, ca27, cf, Tryz.results6, hnb]
      refine callO_intro (laws_markI xs (by omega) hxo _ v S5 1 hK8 hN5 (by omega) (by omega)) ?_
      rintro r A9 ⟨rfl, l9, hK9⟩
      simp only [zW, zX, zD, builtinA, isLeaf, const1, ustrA, simprocAttr, ti3, ti4, ca15, ca17, ca19, ca24, ca25, ca26, ca27, cf, Tryz.results6]
      refine callO_intro (borrow0 (.cons hK9.view (.cons (.leaf _ rfl) .nil)) rfl (fun A => laws_heldSigItemS xs (by omega) hxo 1 (by omega) (by omega) A)) ?_
      rintro r A' ⟨rfl, rfl⟩
      simp only [zW, zX, zD, builtinA, isLeaf, const1, ustrA, simprocAttr, ti3, ti4, ca15, ca17, ca19, ca24, ca25, ca26, ca27, cf, Tryz.results6, hge2, hne]
      refine callK_intro (by simp only [zW, zX, zD, builtinA, isLeaf, const1, ustrA, simprocAttr, Option.map_some]; rfl) (htoa _) ?_ rfl; rintro v A' ⟨rfl, rfl⟩
      simp only [zW, zX, zD, builtinA, isLeaf, const1, ustrA, simprocAttr, ti3, ti4, ca15, ca17, ca19, ca24, ca25, ca26, ca27, cf, Tryz.results6]
      refine callK_intro (by simp only [zW, zX, zD, builtinA, isLeaf, const1, ustrA, simprocAttr, Option.map_some]; rfl) (htob _) ?_ rfl; rintro v A' ⟨rfl, rfl⟩
      simp only [zW, zX, zD, builtinA, isLeaf, const1, ustrA, simprocAttr, ti3, ti4, ca15, ca17, ca19, ca24, ca25, ca26, ca27, cf, Tryz.results6]
      refine callK_intro (by simp only [zW, zX, zD, builtinA, isLeaf, const1, ustrA, simprocAttr, Option.map_some] <;> rfl) (himpl _) ?_ rfl
      rintro r A10 ⟨B10, v2, S10, hA10, hB10, rfl, hv10, hK10, hN10, hR10⟩
      have hM11 : OwnI A10 (markG xs 1) v S5 := hK9.frame fun i hi => by rw [hA10, Abs.getD_append_left (hK9.low i hi)]
      clear hA10
      simp only [zW, zX, zD, builtinA, isLeaf, const1, ustrA, simprocAttr, ti3, ti4, ca15, ca17, ca19, ca24, ca25, ca26, ca27, cf, Tryz.results6]
      refine callO_intro (borrow0 (.cons hK10.view (.cons (.leaf _ rfl) .nil)) rfl heqx) ?_
      rintro r A' ⟨rfl, rfl⟩
      simp only [zW, zX, zD, builtinA, isLeaf, const1, ustrA, simprocAttr, ti3, ti4, ca15, ca17, ca19, ca24, ca25, ca26, ca27, cf, Tryz.results6, hnb]
      refine callO_intro (borrow0 (.cons hM11.view (.cons (.leaf _ rfl) .nil)) rfl (fun A => laws_heldSigItemS xs (by omega) hxo 1 (by omega) (by omega) A)) ?_
      rintro r A' ⟨rfl, rfl⟩
      simp only [zW, zX, zD, builtinA, isLeaf, const1, ustrA, simprocAttr, ti3, ti4, ca15, ca17, ca19, ca24, ca25, ca26, ca27, cf, Tryz.results6, hge2, hne]
    · have hv2 : left (1048576 - (a.length + szIs a : Nat)) (b.length + szIs b) = -1 := by rw [left, if_neg (by omega)]
      refine acalls_enter (cf := cf 119 [0, 1, 4, 5, 6, 7, 8, 9, 10, 11, 12, 13, 14, 15, 16, 21, 26, 53, 58, 63, 82, 90, 93, 110, 115, 118]) foll Tryz.func6 Tryz.ntmps6 (by simp [cf]) ?_
      simp only [Tryz.f6, EnterK_some, zW, zX, zD, builtinA, isLeaf, const1, ustrA, simprocAttr, ti3, ti4, ca15, ca17, ca19, ca24, ca25, ca26, ca27, cf, Tryz.results6]
      refine callK_intro (by simp only [zW, zX, zD, builtinA, isLeaf, const1, ustrA, simprocAttr, Option.map_some]; rfl) (hsza _ _ (by omega) (by omega)) ?_ rfl; rintro v A' ⟨rfl, rfl⟩
      rw [hv1]
      simp only [zW, zX, zD, builtinA, isLeaf, const1, ustrA, simprocAttr, ti3, ti4, ca15, ca17, ca19, ca24, ca25, ca26, ca27, cf, Tryz.results6, hn1]
      refine callK_intro (by simp only [zW, zX, zD, builtinA, isLeaf, const1, ustrA, simprocAttr, Option.map_some]; rfl) (hszb _ _ (by omega) (by omega)) ?_ rfl; rintro v A' ⟨rfl, rfl⟩
      rw [hv2]
      simp only [zW, zX, zD, builtinA, isLeaf, const1, ustrA, simprocAttr, ti3, ti4, ca15, ca17, ca19, ca24, ca25, ca26, ca27, cf, Tryz.results6]
  · have hv1 : left 1048576 (a.length + szIs a) = -1 := by rw [left, if_neg (by omega)]
    refine acalls_enter (cf := cf 119 [0, 1, 4, 5, 6, 7, 8, 9, 10, 11, 12, 13, 14, 15, 16, 21, 26, 53, 58, 63, 82, 90, 93, 110, 115, 118]) foll Tryz.func6 Tryz.ntmps6 (by simp [cf]) ?_
    simp only [Tryz.f6, EnterK_some, zW, zX, zD, builtinA, isLeaf, const1, ustrA, simprocAttr, ti3, ti4, ca15, ca17, ca19, ca24, ca25, ca26, ca27, cf, Tryz.results6]
    refine callK_intro (by simp only [zW, zX, zD, builtinA, isLeaf, const1, ustrA, simprocAttr, Option.map_some]; rfl) (hsza _ _ (by omega) (by omega)) ?_ rfl; rintro v A' ⟨rfl, rfl⟩
    rw [hv1]
    simp only [zW, zX, zD, builtinA, isLeaf, const1, ustrA, simprocAttr, ti3, ti4, ca15, ca17, ca19, ca24, ca25, ca26, ca27, cf, Tryz.results6]

theorem exactJoinSigs_rec : ∀ t ∈ Tryz.f6.params.toList, Tryz.prog.readableRec t = true ∧ t < Tryz.prog.types.size := by
  rw [Tryz.params6]
  intro t ht
  simp at ht
  subst ht
  exact ⟨by kernel_rfl, of_decide_eq_true (by kernel_rfl)⟩
set_option maxRecDepth 100000 in
theorem exactJoinSigs_lifted (os : Os) (started : os.Started) (H : Type) (enc' : TypeId × Value → H) :
    ReturnsInHanded {} Tryz.checked os 6 .any (fun w args => (Rows.fnExactJoinSigsSpec.pre enc' Tryz.prog Tryz.f6 Rows.fnExactJoinSigsRow.domain false w args ∧ laidMetH Tryz.prog laidL w) ∧ sizedMet enc' Tryz.prog Tryz.f6 (OpenSpec.ofChange Rows.fnExactJoinSigsSpec) false w args) (Rows.fnExactJoinSigsSpec.post enc' Tryz.prog Tryz.f6 false true false false) := by
  refine returnsInHanded_of_change_and (C := Tryz.checked) (X := fun w _ => laidMetH Tryz.prog laidL w) (fun _ _ _ hh h => h.of_heap hh) ownk started (by kernel_rfl) Tryz.func6
    (ChangeSpec.witness_at (enc := enc') (C := Tryz.checked) (os := os) (X := fun w _ => laidMetH Tryz.prog laidL w) false (laidWorld os) #[.slice none 0 0, .slice none 0 0] 8 rfl (by kernel_rfl) (by kernel_rfl) (by kernel_rfl) (by kernel_rfl) (by kernel_rfl) (laidWorld_met os _)) ?_
  intro W base args ds gs before hval0 hW hcnd _ hL _
  have hval : ∀ (j : Nat) t v, Tryz.f6.params[j]? = some t → args[j]? = some v → Value.okWide Tryz.prog W .any base t v := hval0
  have hW' := hW
  obtain ⟨p, q, hA0, hV, rfl, hfz, hnd⟩ := hW
  have hA : DataW.TrodAll enc' Tryz.prog W 0 (fun _ => true) true Tryz.f6.params.toList args.toList ds p := hA0
  rw [Tryz.params6] at hA hval
  have hlt := hA.lt
  obtain ⟨v0, v1, d0, d1, p0, p1, rfl, rfl, rfl, h0, h1⟩ := trodAll_two hA
  obtain ⟨rfl, rfl⟩ := trodVars_none hV
  obtain ⟨x0, hx0, r0⟩ := rv_sigs (hval 0 22 v0 rfl rfl) h0
  obtain ⟨x1, hx1, r1⟩ := rv_sigs (hval 1 22 v1 rfl rfl) h1
  refine (law_calls (exactJoinSigs_true x0 hx0 x1 hx1) (.cons r0 (.cons r1 .nil)) (gv_of_laid hL)).mono fun e W' ⟨he, hb⟩ => ?_
  subst he
  exact ⟨_, rfl, law_post laid exactJoinSigs_rec rfl Tryz.underlying4 (by kernel_rfl) ⟨rfl, rfl⟩ rfl hW' hb⟩
theorem exactJoinSigs_facts : joinedFacts Tryz.pinned.checked.prog 6 Tryz.f6 Rows.fnExactJoinSigsSpec Rows.fnExactJoinSigsRow = true := by kernel_rfl
theorem exactJoinSigs_row : Rows.FnExactJoinSigsSaid :=
  OpenClaim.holds_of_wide 6 Tryz.f6 rfl rfl rfl rfl rfl rfl rfl ⟨rfl, rfl, rfl, rfl, rfl⟩ rfl rfl rfl rfl rfl (by kernel_rfl) Tryz.func6 exactJoinSigs_facts
    (of_decide_eq_true (by kernel_rfl)) (by unfold Func.isWrapper; first | (rw [if_pos (by decide +kernel)]; kernel_rfl) | (rw [if_neg (by decide +kernel)]; exact ⟨rfl, rfl⟩))
    (fun os started H enc' _ => exactJoinSigs_lifted os started H enc')
theorem exactJoinSigs_holds : Rows.FnExactJoinSigsCardSaid :=
  Claim7.holds_tied_plain_at .later [] [.handle] true (true, "3b9c0b29125ae3c1057be6c9ea7f3211bb3d44f2cff06c881e93488895868c60") true
    exactJoinSigs_row (fun _ h => by cases h) (by kernel_rfl) (fun _ h => by cases h) fnExactJoinSigs_row_tie rfl ⟨rfl, rfl⟩ (by kernel_rfl) rfl
    (fun f fn hf hfn => by
      obtain rfl : f = 6 := Option.some.inj ((show Tryz.prog.funcNamed Rows.fnExactJoinSigsRow.func = some 6 by kernel_rfl).symm.trans hf) |>.symm
      obtain rfl : fn = Tryz.f6 := (Option.some.inj (Tryz.func6.symm.trans hfn)).symm
      refine ⟨by kernel_rfl, fun j t ht => ?_⟩
      rw [Tryz.params6] at ht
      rcases j with _ | _ | j
      · obtain rfl : 22 = t := by simpa using ht
        exact (show Tryz.prog.wantsStandIn 22 = false by kernel_rfl)
      · obtain rfl : 22 = t := by simpa using ht
        exact (show Tryz.prog.wantsStandIn 22 = false by kernel_rfl)
      · simp at ht)
    (by kernel_rfl)
end Go.Proofs.YtkajklfohjcofaaGreatDoor

