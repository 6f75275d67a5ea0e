/- How the relation between the boxes and the memory goes on. -/
import Derived.Test.YtfefnoaebafkiaaAbsA
set_option linter.unusedVariables false
set_option linter.unusedSimpArgs false
namespace Go.Abs
open Go.RowKit

theorem cell?_congr {w w' : World} {b : Nat} (h : w'.heap[b]? = w.heap[b]?) (o : Nat) : w'.cell? ⟨b, o, none⟩ = w.cell? ⟨b, o, none⟩ := by
  simp [World.cell?, h]

theorem cell?_of {w : World} {b o : Nat} {c : Array Value} {e : TypeId} {fz : Nat × Nat} (h : w.heap[b]? = some (.cells c e fz)) (ho : o < c.size) : w.cell? ⟨b, o, none⟩ = some (c.getD o undef) := by
  simp [World.cell?, h, Array.getD, ho]

theorem frozen?_of {w : World} {b o : Nat} {c : Array Value} {e : TypeId} {fz : Nat × Nat} (h : w.heap[b]? = some (.cells c e fz)) (hf : ¬ (fz.1 ≤ o ∧ o < fz.2)) : w.frozen? ⟨b, o, none⟩ = false := by
  obtain ⟨lo, hi⟩ := fz
  simp only [World.frozen?, h]
  simpa using hf

/-- all blocks but those of X stay -/
structure Kept (X : Nat → Prop) (w w' : World) : Prop where
  os : w'.os = w.os
  tape : w'.tape = w.tape
  output : w'.output = w.output
  size : w.heap.size ≤ w'.heap.size
  block : ∀ b, b < w.heap.size → ¬ X b → w'.heap[b]? = w.heap[b]?

theorem Kept.fz {X : Nat → Prop} {w w' : World} (h : Kept X w w') {b : Nat} (hb : b < w.heap.size) (hx : ¬ X b) (f : fzOk w b) : fzOk w' b := by
  unfold fzOk; rw [h.block b hb hx]; exact f

theorem Kept.below {X : Nat → Prop} {w w' : World} {base : Nat} (h : Kept X w w') (hX : ∀ b, X b → base ≤ b) (hb : base ≤ w.heap.size) : Below base w w' :=
  ⟨h.os, h.tape, h.output, h.size, fun k hk => h.block k (by omega) (fun hx => by have := hX k hx; omega)⟩

theorem RowOk.mono {E : AV → Bool} {G G' : Ghost} {w w' : World} {i sz s : Nat} {rows : List (List AV)} (h : RowOk E G w i sz rows s) (e : Ext G w G' w') (hi : i < G.n)
    (hk : w'.heap[G.blk i]? = w.heap[G.blk i]?) (hI : ∀ o, G'.I (G.blk i) o → G.I (G.blk i) o) : RowOk E G' w' i sz rows s := by
  obtain ⟨a1, a2, a3, a4, a5⟩ := e.ids i hi
  obtain ⟨c, el, h1, h3, h4, h5, h6, h7, h8, h9, h10, h11⟩ := h
  refine ⟨c, el, ?_, h3, by rw [a3]; exact h4, by rw [a4]; exact h5, by rw [a5]; exact h6, by rw [a2, a4]; exact h7, h8, h9, fun k j hk' hj => ?_, fun o ho hh => ?_⟩
  · rw [a1, hk]; exact h1
  · rw [a2]; exact (h10 k j hk' hj).mono e
  · rw [a2] at ho; rw [a1] at hh; exact h11 o ho (hI o hh)

theorem Typed.mono {te : Option TypeId} {G G' : Ghost} {w w' : World} {i : Nat} (h : Typed te G w i) (e : Ext G w G' w') (hi : i < G.n) (hk : w'.heap[G.blk i]? = w.heap[G.blk i]?) : Typed te G' w' i := by
  obtain ⟨a1, a2, a3, a4, a5⟩ := e.ids i hi
  intro t ht
  obtain ⟨b1, c, b2⟩ := h t ht
  exact ⟨by rw [a2]; exact b1, c, by rw [a1, hk]; exact b2⟩

theorem BoxOk.mono {G G' : Ghost} {w w' : World} {i : Nat} {b : Box} (h : BoxOk G w i b) (e : Ext G w G' w') (hi : i < G.n)
    (hk : b.live = true → w'.heap[G.blk i]? = w.heap[G.blk i]?) (hI : b.live = true → ∀ o, G'.I (G.blk i) o → G.I (G.blk i) o) : BoxOk G' w' i b := by
  obtain ⟨a1, a2, a3, a4, a5⟩ := e.ids i hi
  cases b with
  | dead => trivial
  | cells cs =>
    obtain ⟨c, el, h1, h3, h4, h5, h6⟩ := h
    refine ⟨c, el, ?_, h3, h4, fun j hj => (h5 j hj).mono e, fun o ho => h6 o (hI rfl o (by rwa [← a1]))⟩
    rw [a1, hk rfl]; exact h1
  | row sz rows s => exact RowOk.mono h e hi (hk rfl) (hI rfl)
  | gr te sz rows => exact ⟨RowOk.mono h.1 e hi (hk rfl) (hI rfl), h.2.mono e hi (hk rfl)⟩
  | tc T cs =>
    obtain ⟨c, h1, h3, h4, h5, h6⟩ := h
    refine ⟨c, ?_, h3, h4, fun j hj => (h5 j hj).mono e, fun o ho => h6 o (hI rfl o (by rwa [← a1]))⟩
    rw [a1, hk rfl]; exact h1
  | mapb es =>
    obtain ⟨m, cl, h1, h3, h4, h5⟩ := h
    exact ⟨m, cl, by rw [a1, hk rfl]; exact h1, h3, fun j hj => ⟨(h4 j hj).1.mono e, (h4 j hj).2.mono e⟩, fun o ho => h5 o (hI rfl o (by rwa [← a1]))⟩

/-- the same heap -/
theorem HRel.heap {G : Ghost} {A : List Box} {w w' : World} {base : Nat} (h : HRel G A w base) (hh : w'.heap = w.heap) : HRel G A w' base ∧ Ext G w G w' := by
  have e : Ext G w G w' := ⟨Nat.le_refl _, fun _ _ x => x, fun b o _ => cell?_congr (by rw [hh]) o, fun _ _ => ⟨rfl, rfl, rfl, rfl, rfl⟩, fun b o _ f => by unfold fzOk; rw [hh]; exact f⟩
  exact ⟨⟨h.n, fun i hi => (h.box i hi).mono e (by rw [h.n]; exact hi) (fun _ => by rw [hh]) (fun _ _ x => x), h.sep, fun i hi hl => by rw [hh]; exact h.bnd i hi hl, fun b o x => by rw [hh]; exact h.imm b o x, by rw [hh]; exact h.low⟩, e⟩

def Ghost.add (G : Ghost) (b off len cap sz : Nat) : Ghost :=
  { n := G.n + 1, I := G.I, blk := fun i => if i = G.n then b else G.blk i, off := fun i => if i = G.n then off else G.off i,
    len := fun i => if i = G.n then len else G.len i, cap := fun i => if i = G.n then cap else G.cap i, sz := fun i => if i = G.n then sz else G.sz i }

theorem Ghost.add_ext {G : Ghost} {w w' : World} (b off len cap sz : Nat) (hc : ∀ x o, G.I x o → w'.cell? ⟨x, o, none⟩ = w.cell? ⟨x, o, none⟩) (hf : ∀ x o, G.I x o → fzOk w x → fzOk w' x) : Ext G w (G.add b off len cap sz) w' :=
  { fz := hf
    n := by simp [Ghost.add]
    I := fun _ _ x => x
    cell := hc
    ids := fun i hi => by
      have : i ≠ G.n := Nat.ne_of_lt hi
      simp [Ghost.add, this] }

theorem getD_append_left {α : Type} {l l' : List α} {i : Nat} {d : α} (h : i < l.length) : (l ++ l').getD i d = l.getD i d := by
  simp [List.getD, List.getElem?_append_left h]

/-- a new block, and its box, at the end -/
theorem HRel.push {G : Ghost} {A : List Box} {w w' : World} {base : Nat} (h : HRel G A w base) (bx : Box) (off len cap sz : Nat)
    (hk : Kept (fun _ => False) w w') (hs : w.heap.size < w'.heap.size)
    (hb : Ext G w (G.add w.heap.size off len cap sz) w' → BoxOk (G.add w.heap.size off len cap sz) w' G.n bx) :
    HRel (G.add w.heap.size off len cap sz) (A ++ [bx]) w' base ∧ Ext G w (G.add w.heap.size off len cap sz) w' := by
  have e : Ext G w (G.add w.heap.size off len cap sz) w' := Ghost.add_ext _ _ _ _ _ (fun x o hx => cell?_congr (hk.block x (h.imm x o hx) (fun f => f)) o) fun x o hx f => hk.fz (h.imm x o hx) (fun f => f) f
  have hn := h.n
  have hblk : ∀ i, i < A.length → (G.add w.heap.size off len cap sz).blk i = G.blk i := fun i hi => (e.ids i (by omega)).1
  have hnew : (G.add w.heap.size off len cap sz).blk A.length = w.heap.size := by simp [Ghost.add, hn]
  refine ⟨⟨by simp [Ghost.add, hn], fun i hi => ?_, fun i j hi hj hne li lj => ?_, fun i hi li => ?_, fun b o x => Nat.lt_of_lt_of_le (h.imm b o x) hk.size, Nat.le_trans h.low hk.size⟩, e⟩
  · simp only [List.length_append, List.length_singleton] at hi
    by_cases hlt : i < A.length
    · rw [getD_append_left hlt]
      exact (h.box i hlt).mono e (by omega) (fun li => hk.block _ (h.bnd i hlt li).2 (fun f => f)) (fun _ _ x => x)
    · obtain rfl : i = A.length := by omega
      have : (A ++ [bx]).getD A.length Box.dead = bx := by simp [List.getD]
      rw [this, ← hn]; exact hb e
  · simp only [List.length_append, List.length_singleton] at hi hj
    by_cases hil : i < A.length
    · rw [getD_append_left hil] at li
      by_cases hjl : j < A.length
      · rw [getD_append_left hjl] at lj
        rw [hblk i hil, hblk j hjl]; exact h.sep i j hil hjl hne li lj
      · obtain rfl : j = A.length := by omega
        rw [hblk i hil, hnew]; have := (h.bnd i hil li).2; omega
    · obtain rfl : i = A.length := by omega
      have hjl : j < A.length := by omega
      rw [getD_append_left hjl] at lj
      rw [hblk j hjl, hnew]; have := (h.bnd j hjl lj).2; omega
  · simp only [List.length_append, List.length_singleton] at hi
    by_cases hil : i < A.length
    · rw [getD_append_left hil] at li
      rw [hblk i hil]; have := h.bnd i hil li; exact ⟨this.1, Nat.lt_of_lt_of_le this.2 hk.size⟩
    · obtain rfl : i = A.length := by omega
      rw [hnew]; exact ⟨h.low, hs⟩

theorem getD_set_self {α : Type} {l : List α} {i : Nat} {d x : α} (h : i < l.length) : (l.set i x).getD i d = x := by
  simp [List.getD, h]
theorem getD_set_ne' {α : Type} {l : List α} {i j : Nat} {d x : α} (h : i ≠ j) : (l.set i x).getD j d = l.getD j d := by
  simp [List.getD, List.getElem?_set_ne h]

/-- one box and its block change -/
theorem HRel.set {G : Ghost} {A : List Box} {w w' : World} {base i : Nat} (h : HRel G A w base) (bx : Box) (hi : i < A.length) (hl : (A.getD i .dead).live = true)
    (hk : Kept (fun b => b = G.blk i) w w') (hc : ∀ o, G.I (G.blk i) o → w'.cell? ⟨G.blk i, o, none⟩ = w.cell? ⟨G.blk i, o, none⟩) (hf : ∀ o, G.I (G.blk i) o → fzOk w (G.blk i) → fzOk w' (G.blk i))
    (hb : Ext G w G w' → BoxOk G w' i bx) : HRel G (A.set i bx) w' base ∧ Ext G w G w' := by
  have e : Ext G w G w' := ⟨Nat.le_refl _, fun _ _ x => x, fun x o hx => by
      by_cases hxb : x = G.blk i
      · subst hxb; exact hc o hx
      · exact cell?_congr (hk.block x (h.imm x o hx) hxb) o, fun _ _ => ⟨rfl, rfl, rfl, rfl, rfl⟩, fun x o hx f => by
      by_cases hxb : x = G.blk i
      · subst hxb; exact hf o hx f
      · exact hk.fz (h.imm x o hx) hxb f⟩
  refine ⟨⟨by simp [h.n], fun j hj => ?_, fun j k hj hk' hne lj lk => ?_, fun j hj lj => ?_, fun b o x => Nat.lt_of_lt_of_le (h.imm b o x) hk.size, Nat.le_trans h.low hk.size⟩, e⟩
  · simp only [List.length_set] at hj
    by_cases hji : i = j
    · subst hji; rw [getD_set_self hi]; exact hb e
    · rw [getD_set_ne' hji]
      exact (h.box j hj).mono e (by rw [h.n]; exact hj) (fun lj => hk.block _ (h.bnd j hj lj).2 (fun hx => h.sep j i hj hi (Ne.symm hji) lj hl hx)) (fun _ _ x => x)
  · simp only [List.length_set] at hj hk'
    have aux : ∀ k, k < A.length → ((A.set i bx).getD k .dead).live = true → (A.getD k .dead).live = true := fun k hk2 lk2 => by
      by_cases hki : i = k
      · subst hki; exact hl
      · rwa [getD_set_ne' hki] at lk2
    exact h.sep j k hj hk' hne (aux j hj lj) (aux k hk' lk)
  · simp only [List.length_set] at hj
    have : base ≤ G.blk j ∧ G.blk j < w.heap.size := by
      by_cases hji : i = j
      · subst hji; exact h.bnd i hi hl
      · rw [getD_set_ne' hji] at lj; exact h.bnd j hj lj
    exact ⟨this.1, Nat.lt_of_lt_of_le this.2 hk.size⟩

/-- a box is given up -/
theorem HRel.kill {G : Ghost} {A : List Box} {w : World} {base i : Nat} (h : HRel G A w base) : HRel G (A.set i .dead) w base := by
  have aux : ∀ k, ((A.set i .dead).getD k .dead).live = true → (A.set i .dead).getD k .dead = A.getD k .dead := fun k lk2 => by
    by_cases hki : i = k
    · subst hki
      by_cases hlt : i < A.length
      · rw [getD_set_self hlt] at lk2; simp [Box.live] at lk2
      · simp [List.getD, hlt] at lk2; simp [Box.live] at lk2
    · exact getD_set_ne' hki
  refine ⟨by simp [h.n], fun j hj => ?_, fun j k hj hk' hne lj lk => ?_, fun j hj lj => ?_, h.imm, h.low⟩
  · simp only [List.length_set] at hj
    by_cases hji : i = j
    · subst hji; rw [getD_set_self hj]; trivial
    · rw [getD_set_ne' hji]; exact h.box j hj
  · simp only [List.length_set] at hj hk'
    exact h.sep j k hj hk' hne (by rw [← aux j lj]; exact lj) (by rw [← aux k lk]; exact lk)
  · simp only [List.length_set] at hj
    exact h.bnd j hj (by rw [← aux j lj]; exact lj)

/-- what a row holds is never written again -/
theorem HRel.shutRow {G : Ghost} {A : List Box} {w : World} {base i sz s : Nat} {rows : List (List AV)} (h : HRel G A w base) (hi : i < A.length) (hb : A.getD i .dead = .row sz rows s) :
    ∃ G', HRel G' (A.set i (.row sz rows rows.length)) w base ∧ Ext G w G' w ∧ RV G' w (.slice rows) (.slice (some ⟨G.blk i, G.off i, none⟩) (G.len i) (G.cap i)) := by
  have hl : (A.getD i .dead).live = true := by rw [hb]; rfl
  have hbox := h.box i hi
  rw [hb] at hbox
  obtain ⟨c, el, h1, h3, h4, h5, h6, h7, h8, h9, h10, h11⟩ := hbox
  let G' : Ghost := { G with I := fun b o => G.I b o ∨ (b = G.blk i ∧ G.off i ≤ o ∧ o < G.off i + rows.length * sz) }
  have e : Ext G w G' w := ⟨Nat.le_refl _, fun _ _ x => .inl x, fun _ _ _ => rfl, fun _ _ => ⟨rfl, rfl, rfl, rfl, rfl⟩, fun _ _ _ f => f⟩
  have hcap : rows.length * sz ≤ G.cap i * sz := Nat.mul_le_mul_right _ h5
  have inb : ∀ k j, k < rows.length → j < sz → k * sz + j < rows.length * sz := fun k j hk hj => by
    have := Nat.mul_le_mul_right sz (Nat.succ_le_of_lt hk)
    rw [Nat.succ_mul] at this; omega
  refine ⟨G', ⟨by simp [G', h.n], fun j hj => ?_, fun j k hj hk' hne lj lk => ?_, fun j hj lj => ?_, fun b o x => ?_, h.low⟩, e, ?_⟩
  · simp only [List.length_set] at hj
    by_cases hji : i = j
    · subst hji; rw [getD_set_self hj]
      refine ⟨c, el, h1, h3, h4, h5, h6, h7, Nat.le_refl _, h9, fun k j hk hj => (h10 k j hk hj).mono e, fun o ho hh => ?_⟩
      rcases hh with hh | hh
      · exact h11 o (Nat.le_trans (Nat.add_le_add_left (Nat.mul_le_mul_right _ h8) _) ho) hh
      · have : G'.off i = G.off i := rfl
        omega
    · rw [getD_set_ne' hji]
      refine (h.box j hj).mono e (by rw [h.n]; exact hj) (fun _ => rfl) (fun lj o x => ?_)
      rcases x with x | x
      · exact x
      · exact absurd x.1 (h.sep j i hj hi (Ne.symm hji) lj hl)
  · simp only [List.length_set] at hj hk'
    have aux : ∀ k, k < A.length → ((A.set i (.row sz rows rows.length)).getD k .dead).live = true → (A.getD k .dead).live = true := fun k hk2 lk2 => by
      by_cases hki : i = k
      · subst hki; exact hl
      · rwa [getD_set_ne' hki] at lk2
    exact h.sep j k hj hk' hne (aux j hj lj) (aux k hk' lk)
  · simp only [List.length_set] at hj
    by_cases hji : i = j
    · subst hji; exact h.bnd i hi hl
    · rw [getD_set_ne' hji] at lj; exact h.bnd j hj lj
  · rcases x with x | x
    · exact h.imm b o x
    · rw [x.1]; exact (h.bnd i hi hl).2
  · rw [h4]
    refine .slice rows (G.blk i) (G.off i) (G.cap i) sz (fun k j => c.getD (G.off i + (k * sz + j)) undef) h9 h5 (fun k j hk hj => ?_) (fun k j hk hj => .inr ⟨rfl, by omega, ?_⟩) (fun _ _ => ⟨c, el, h1⟩) fun k j hk hj => (h10 k j hk hj).mono e
    · exact cell?_of h1 (by have := inb k j hk hj; omega)
    · have := inb k j hk hj; omega

/-- a box changes hands: the old number is dead, a new one has its block -/
theorem HRel.hand {G : Ghost} {A : List Box} {w w' : World} {base i : Nat} (h : HRel G A w base) (bx : Box) (off len cap sz : Nat) (hi : i < A.length) (hl : (A.getD i .dead).live = true)
    (hk : Kept (fun b => b = G.blk i) w w') (hc : ∀ o, G.I (G.blk i) o → w'.cell? ⟨G.blk i, o, none⟩ = w.cell? ⟨G.blk i, o, none⟩) (hf : ∀ o, G.I (G.blk i) o → fzOk w (G.blk i) → fzOk w' (G.blk i))
    (hb : Ext G w (G.add (G.blk i) off len cap sz) w' → BoxOk (G.add (G.blk i) off len cap sz) w' G.n bx) :
    HRel (G.add (G.blk i) off len cap sz) (A.set i .dead ++ [bx]) w' base ∧ Ext G w (G.add (G.blk i) off len cap sz) w' := by
  have e : Ext G w (G.add (G.blk i) off len cap sz) w' := Ghost.add_ext _ _ _ _ _ (fun x o hx => by
      by_cases hxb : x = G.blk i
      · subst hxb; exact hc o hx
      · exact cell?_congr (hk.block x (h.imm x o hx) hxb) o) fun x o hx f => by
      by_cases hxb : x = G.blk i
      · subst hxb; exact hf o hx f
      · exact hk.fz (h.imm x o hx) hxb f
  have hn := h.n
  have hblk : ∀ j, j < A.length → (G.add (G.blk i) off len cap sz).blk j = G.blk j := fun j hj => (e.ids j (by omega)).1
  have hnew : (G.add (G.blk i) off len cap sz).blk A.length = G.blk i := by simp [Ghost.add, hn]
  have old : ∀ j, j < A.length → ((A.set i .dead ++ [bx]).getD j .dead).live = true → j ≠ i ∧ (A.getD j .dead).live = true := fun j hj lj => by
    rw [getD_append_left (by simpa using hj)] at lj
    by_cases hji : i = j
    · subst hji; rw [getD_set_self hj] at lj; simp [Box.live] at lj
    · rw [getD_set_ne' hji] at lj; exact ⟨Ne.symm hji, lj⟩
  refine ⟨⟨by simp [Ghost.add, hn], fun j hj => ?_, fun j k hj hk' hne lj lk => ?_, fun j hj lj => ?_, fun b o x => Nat.lt_of_lt_of_le (h.imm b o x) hk.size, Nat.le_trans h.low hk.size⟩, e⟩
  · simp only [List.length_append, List.length_set, List.length_singleton] at hj
    by_cases hlt : j < A.length
    · rw [getD_append_left (by simpa using hlt)]
      by_cases hji : i = j
      · subst hji; rw [getD_set_self hlt]; trivial
      · rw [getD_set_ne' hji]
        exact (h.box j hlt).mono e (by omega) (fun lj => hk.block _ (h.bnd j hlt lj).2 (fun hx => h.sep j i hlt hi (Ne.symm hji) lj hl hx)) (fun _ _ x => x)
    · obtain rfl : j = A.length := by omega
      have : (A.set i .dead ++ [bx]).getD A.length Box.dead = bx := by simp [List.getD]
      rw [this, ← hn]; exact hb e
  · simp only [List.length_append, List.length_set, List.length_singleton] at hj hk'
    by_cases hjl : j < A.length
    · obtain ⟨n1, l1⟩ := old j hjl lj
      by_cases hkl : k < A.length
      · obtain ⟨n2, l2⟩ := old k hkl lk
        rw [hblk j hjl, hblk k hkl]; exact h.sep j k hjl hkl hne l1 l2
      · obtain rfl : k = A.length := by omega
        rw [hblk j hjl, hnew]; exact h.sep j i hjl hi n1 l1 hl
    · obtain rfl : j = A.length := by omega
      have hkl : k < A.length := by omega
      obtain ⟨n2, l2⟩ := old k hkl lk
      rw [hblk k hkl, hnew]; exact h.sep i k hi hkl (Ne.symm n2) hl l2
  · simp only [List.length_append, List.length_set, List.length_singleton] at hj
    by_cases hjl : j < A.length
    · obtain ⟨n1, l1⟩ := old j hjl lj
      rw [hblk j hjl]; have := h.bnd j hjl l1; exact ⟨this.1, Nat.lt_of_lt_of_le this.2 hk.size⟩
    · obtain rfl : j = A.length := by omega
      rw [hnew]; have := h.bnd i hi hl; exact ⟨this.1, Nat.lt_of_lt_of_le this.2 hk.size⟩

def boxClosed (n : Nat) : Box → Bool
  | .dead => true
  | .cells cs => cs.all (closed1 n)
  | .tc _ cs => cs.all (closed1 n)
  | .row .. => true
  | .gr _ _ rows => rows.all fun r => r.all (closed1 n)
  | .mapb es => es.all fun e => closed2 n e.1 && closed2 n e.2

/-- the last boxes are forgotten -/
theorem HRel.cut {G : Ghost} {A B : List Box} {w : World} {base : Nat} (h : HRel G (A ++ B) w base) (hc : ∀ i, i < A.length → boxClosed A.length (A.getD i .dead) = true) :
    HRel (G.cut A.length) A w base := by
  have hlen : ∀ i, i < A.length → i < (A ++ B).length := fun i hi => by simp; omega
  refine ⟨rfl, fun i hi => ?_, fun i j hi hj hne li lj => ?_, fun i hi li => ?_, h.imm, h.low⟩
  · have hb := h.box i (hlen i hi)
    have hcl := hc i hi
    rw [getD_append_left hi] at hb
    cases hbx : A.getD i .dead with
    | dead => trivial
    | cells cs =>
      rw [hbx] at hb hcl
      obtain ⟨c, el, h1, h3, h4, h5, h6⟩ := hb
      simp only [boxClosed, List.all_eq_true] at hcl
      exact ⟨c, el, h1, h3, h4, fun j hj => (h5 j hj).cut _ (closed1_closed (hcl _ (getD_mem hj))), h6⟩
    | row sz rows s =>
      rw [hbx] at hb
      obtain ⟨c, el, h1, h3, h4, h5, h6, h7, h8, h9, h10, h11⟩ := hb
      exact ⟨c, el, h1, h3, h4, h5, h6, h7, h8, h9, fun k j hk hj => (h10 k j hk hj).cut _ (leaf_closed (rowAt_mem h9 hk hj)), h11⟩
    | tc T cs =>
      rw [hbx] at hb hcl
      obtain ⟨c, h1, h3, h4, h5, h6⟩ := hb
      simp only [boxClosed, List.all_eq_true] at hcl
      exact ⟨c, h1, h3, h4, fun j hj => (h5 j hj).cut _ (closed1_closed (hcl _ (getD_mem hj))), h6⟩
    | gr te sz rows =>
      rw [hbx] at hb hcl
      obtain ⟨⟨c, el, h1, h3, h4, h5, h6, h7, h8, h9, h10, h11⟩, ht⟩ := hb
      simp only [boxClosed, List.all_eq_true] at hcl
      refine ⟨⟨c, el, h1, h3, h4, h5, h6, h7, h8, h9, fun k j hk hj => (h10 k j hk hj).cut _ (closed1_closed ?_), h11⟩, ht⟩
      have hm := getD_mem (d := []) hk
      exact hcl _ hm _ (getD_mem (by have := (h9 _ hm).1; omega))
    | mapb es =>
      rw [hbx] at hb hcl
      obtain ⟨m, cl, h1, h3, h4, h5⟩ := hb
      simp only [boxClosed, List.all_eq_true, Bool.and_eq_true] at hcl
      exact ⟨m, cl, h1, h3, fun j hj => ⟨(h4 j hj).1.cut _ (closed2_closed (hcl _ (getD_mem hj)).1), (h4 j hj).2.cut _ (closed2_closed (hcl _ (getD_mem hj)).2)⟩, h5⟩
  · exact h.sep i j (hlen i hi) (hlen j hj) hne (by rw [getD_append_left hi]; exact li) (by rw [getD_append_left hj]; exact lj)
  · exact h.bnd i (hlen i hi) (by rw [getD_append_left hi]; exact li)

end Go.Abs
