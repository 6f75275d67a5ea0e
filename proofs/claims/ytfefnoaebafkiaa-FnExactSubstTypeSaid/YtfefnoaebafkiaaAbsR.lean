/- From a call on what the arguments stand for to the statement of a law. -/
import Derived.Test.YtfefnoaebafkiaaAbsQ
import Derived.ProofKit
set_option linter.unusedVariables false
set_option linter.unusedSimpArgs false
namespace Go.Abs
open Go.RowKit Go.ChangeShapes Go.WideShapes Go.ChangeAt

section
variable {H : Type} {enc : TypeId × Value → H} {P : Program} {W W' : World}

theorem trodAll_stays (hl : laidOutB P = true) (hb : Below W.heap.size W W') : ∀ {ts : List TypeId} {vs : List Value} {ds : List (DataW H)} {ps : List MemPlace}, (∀ t ∈ ts, P.readableRec t = true ∧ t < P.types.size) →
    DataW.TrodAll enc P W 0 (fun _ => true) true ts vs ds ps → DataW.TrodAll enc P W' 0 (fun b => decide (b < W.heap.size)) true ts vs ds ps
  | [], [], [], ps, _, h => h
  | [], _ :: _, _, ps, _, h => h.elim
  | [], [], _ :: _, ps, _, h => h.elim
  | _ :: _, [], _, ps, _, h => h.elim
  | _ :: _, _ :: _, [], ps, _, h => h.elim
  | t :: ts, v :: vs, d :: ds, ps, hts, h => by
    have hlt := h.lt
    obtain ⟨p, q, h1, h2, rfl⟩ := h
    exact ⟨p, q, hb.trod hl (hts t (by simp)).1 (hts t (by simp)).2 h1 (fun x hx => hlt x (by simp [hx])), trodAll_stays hl hb (fun t ht => hts t (by simp [ht])) h2, rfl⟩

theorem law_post {f : Func} {s : ChangeSpec} {args : Array Value} {ds gs : List (DataW H)} {before : List MemPlace} {bt : TypeId} (hl : laidOutB P = true) (hts : ∀ t ∈ f.params.toList, P.readableRec t = true ∧ t < P.types.size)
    (hvars : s.vars = []) (hbt : P.underlying bt = some .bool) (hrt : f.resultTypes = #[bt]) (hfn : (s.fn H (ds ++ gs)).results = [.lit (.bool true)] ∧ (s.fn H (ds ++ gs)).args = ds)
    (hvs : (s.fn H (ds ++ gs)).vars = [])
    (hW : DataW.Whole enc P f.params.toList s.vars false W args.toList ds gs before) (hb : Below W.heap.size W W') : s.post enc P f false true false false W args (.bool true) W' := by
  obtain ⟨p, q, hA, hV, rfl, hz, hn⟩ := hW
  have hV' := hV
  rw [hvars] at hV'
  obtain ⟨rfl, rfl⟩ := trodVars_none hV'
  have hargs := trodAll_stays hl hb hts hA
  refine ⟨ds, [], p ++ [], [], p, [], ⟨p, [], hA, hV, rfl, hz, hn⟩, ?_, ?_, ?_, ?_, ?_⟩
  · rw [hfn.1, hrt]
    exact trodAll_mk1 (shut_bool hbt _)
  · rw [hfn.2]; exact hargs
  · rw [hvars, hvs]; exact rfl
  · exact hb.frame _
  · intro h; cases h

/-- the start: all that lies there stays as it is -/
def start (W : World) : Ghost := { n := 0, I := fun b _ => b < W.heap.size, blk := fun _ => 0, off := fun _ => 0, len := fun _ => 0, cap := fun _ => 0, sz := fun _ => 0 }

theorem start_rel (W : World) : HRel (start W) [] W W.heap.size :=
  ⟨rfl, fun i hi => by simp at hi, fun i j hi => by simp at hi, fun i hi => by simp at hi, fun b o h => h, Nat.le_refl _⟩

theorem law_calls {f : FuncId} {args : List AV} {xs : Array Value} (h : ACalls P f args [] (fun v _ => v = .bool true)) (hx : RL (start W) W args xs.toList) :
    Calls P f xs W fun e w' => e = .returned (.bool true) ∧ Below W.heap.size W w' :=
  (h (start W) W W.heap.size xs (start_rel W) hx).mono fun e w' ⟨x, v, A', G', h1, h2, h3, h4, h5, h6⟩ => by
    subst h1; subst h2
    cases h3
    exact ⟨rfl, h6⟩

theorem rv_string (G : Ghost) (s : ByteArray) : RV G W (.str s.data.toList) (.string s) := .str s.data.toList

def byteRows (bs : List UInt8) : List (List AV) := bs.map fun b => [.int .u8 (b.toNat : Nat)]

/-- a slice of bytes that came in -/
theorem rv_bytes {t e : TypeId} {v : Value} {d : DataW H} {p : List MemPlace} {r : Reach} {b0 : Nat} (ht : P.underlying t = some (.slice e)) (he : P.underlying e = some (.int .u8)) (hc : P.cellsOf e = 1)
    (hval : Value.okWide P W r b0 t v) (h : DataW.Trod enc P W 0 (fun _ => true) true t v d p) (hlt : ∀ x ∈ p, x.block < W.heap.size) : ∃ bs : List UInt8, RV (start W) W (.aslice (byteRows bs)) v := by
  obtain ⟨a, len, cap, rfl⟩ := okWide_slice ht hval
  obtain ⟨fuel, hf⟩ := h
  rcases open_ints ht he hc hf with ⟨hcs, hx⟩ | ⟨a', len', cap', zs, hcs, hb, hl, hm, hz, hx, hcell, hwf⟩
  · simp [Value.cells] at hcs
    obtain ⟨rfl, rfl, rfl⟩ := hcs
    exact ⟨[], .aslice0⟩
  · simp [Value.cells] at hcs
    obtain ⟨rfl, rfl, rfl⟩ := hcs
    rcases Nat.eq_zero_or_pos len with rfl | hpos
    · exact ⟨[], .asliceE _ _⟩
    · simp only [if_true] at hz
      have hlz : len ≤ zs.length := by omega
      obtain ⟨b, off, spot⟩ := a'
      have hspot : spot = none := by
        have h0 := hcell 0 (by omega)
        simp only [Addr.add_zero'] at h0
        cases spot with
        | none => rfl
        | some x => simp [World.cell?] at h0; split at h0 <;> simp at h0
      subst hspot
      have hblk : b < W.heap.size := by
        have h0 := hcell 0 (by omega)
        simp only [Addr.add_zero', World.cell?] at h0
        rcases Nat.lt_or_ge b W.heap.size with hh | hh
        · exact hh
        · simp [Array.getElem?_eq_none hh] at h0
      have key : ∀ z : Int, (Lit.int .u8 z).wf = true → ((UInt8.ofNat z.toNat).toNat : Int) = z := fun z hz => by
        have hz' : 0 ≤ z ∧ z ≤ 255 := by simpa [Lit.wf, IntKind.min, IntKind.max, IntKind.signed, IntKind.bits] using hz
        have h2 : z.toNat < 256 := by omega
        rw [UInt8.toNat_ofNat', Nat.mod_eq_of_lt h2]
        omega
      have hwf' : ∀ i, i < len → ((UInt8.ofNat (zs.getD i 0).toNat).toNat : Int) = zs.getD i 0 := fun i hi => key _ (hwf _ (getD_mem (d := 0) (show i < zs.length by omega)))
      refine ⟨(zs.take len).map fun n => UInt8.ofNat n.toNat, ?_⟩
      have hbl : (byteRows ((zs.take len).map fun n => UInt8.ofNat n.toNat)).length = len := by simp [byteRows]; omega
      have := RV.aslice (G := start W) (w := W) (byteRows ((zs.take len).map fun n => UInt8.ofNat n.toNat)) b off cap 1 (fun i _ => .int .u8 (zs.getD i 0)) (fun r hr => by
          simp only [byteRows, List.mem_map] at hr
          obtain ⟨_, _, rfl⟩ := hr
          exact ⟨rfl, by simp [isLeaf]⟩) (by omega) (fun i j hi hj => by
          rw [hbl] at hi
          have := hcell i (by omega)
          rw [Addr.add_lit] at this
          rw [show off + (i * 1 + j) = off + i by omega]; exact this) (fun i j hi hj => hblk) (fun i j hi hj => by
          rw [hbl] at hi
          obtain rfl : j = 0 := by omega
          have e1 : rowAt (byteRows ((zs.take len).map fun n => UInt8.ofNat n.toNat)) i 0 = .int .u8 (((UInt8.ofNat (zs.getD i 0).toNat).toNat : Nat) : Int) := by
            have hi2 : i < zs.length := by omega
            simp [rowAt, byteRows, List.getD, hi, hi2]
          rw [e1, hwf' i hi]
          exact .int _ _)
      rw [hbl] at this
      exact this
end
end Go.Abs
