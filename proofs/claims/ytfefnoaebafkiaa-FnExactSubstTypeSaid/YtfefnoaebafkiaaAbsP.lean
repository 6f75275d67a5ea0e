/- Code, loops, functions. -/
import Derived.Test.YtfefnoaebafkiaaAbsI3
set_option linter.unusedVariables false
set_option linter.unusedSimpArgs false
namespace Go.Abs
open Go.RowKit

def AThen (next : Env → List Box → Prop) (Q : Exit → Env → List Box → Prop) : Exit → Env → List Box → Prop
  | .normal, e, A => next e A
  | x, e, A => Q x e A
def ABlk (id : Nat) (Q : Exit → Env → List Box → Prop) : Exit → Env → List Box → Prop
  | .exit j, e, A => if j = id then Q .normal e A else Q (.exit j) e A
  | x, e, A => Q x e A

/-- a loop: what holds at each head (of the slots 'vs'), and what goes down -/
def ALoop (body : (Exit → Env → List Box → Prop) → Env → List Box → Prop) (Q : Exit → Env → List Box → Prop) (e : Env) (A : List Box) : Prop :=
  ∃ (vs : List Nat) (I : Env → List Box → Prop) (μ : Env → List Box → Nat), I (keep vs e) A ∧
    ∀ e A, I e A → body (AThen (fun e' A' => I (keep vs e') A' ∧ μ (keep vs e') A' < μ e A) Q) e A

structure Cfg where
  own : FuncId → Bool
  N : Nat
  vs : List Nat

/-- a region whose order is open, that changes boxes -/
def DrawS (P : Program) (c : Cfg) (ops : Array Oper) (Q : Exit → Env → List Box → Prop) (e : Env) (A : List Box) : Prop :=
  ∃ ns : List Nat, dstOk c.N ops = true ∧ Region.lexB .any ops = true ∧ sepB ops (segIdx 0 ns) = true ∧ (∀ j ∈ segIdx 0 ns, j < ops.size) ∧ wpS P c.own c.N ops (fun e A => Q .normal (keep c.vs e) A) ns ops.toList e A
def chkM (N : Nat) (ops : Array Oper) (T : Ranks) (m n : Nat) (ns : List Nat) (s : Sch) : Bool :=
  (dstOk N ops && lexN ops n 0 (Array.replicate ops.size false) && rankB ops T m && backB ops && endN ops T m n) && (sepB ops (segIdx 0 ns) && effB T (segIdx 0 ns) && ((segIdx 0 ns).all fun j => decide (j < n)) && preB ops n) &&
    ((Region.ready .any ops (setN n 0 (Array.replicate ops.size false)) == s.firsts) && okS ops s (setN n 0 (Array.replicate ops.size false)) && decide (n + s.dep ≤ ops.size))
def DrawM (P : Program) (c : Cfg) (ops : Array Oper) (Q : Exit → Env → List Box → Prop) (e : Env) (A : List Box) : Prop :=
  ∃ (ns : List Nat) (s : Sch) (T : Ranks) (As : Nat → List Box) (m n : Nat), chkM c.N ops T m n ns s = true ∧ As 0 = A ∧
    wpM P c.own c.N ops T m (fun e A => wpY P c.own c.N ops (fun e A => Q .normal (keep c.vs e) A) s e A) ns 0 (ops.toList.take n) e As
def DrawE (P : Program) (c : Cfg) (ops : Array Oper) (Q : Exit → Env → List Box → Prop) (e : Env) (A : List Box) : Prop :=
  DrawS P c ops Q e A ∨ DrawM P c ops Q e A ∨ ∃ (T : Ranks) (As : Nat → List Box) (m : Nat), dstOk c.N ops = true ∧ Region.lexB .any ops = true ∧ rankB ops T m = true ∧ backB ops = true ∧ endB ops T m = true ∧ As 0 = A ∧
    wpE P c.own c.N ops T As (fun e => Q .normal (keep c.vs e) (As m)) 0 ops.toList e

def wpc (P : Program) (c : Cfg) : Code → (Exit → Env → List Box → Prop) → Env → List Box → Prop
  | .skip, Q, e, A => Q .normal e A
  | .label _, Q, e, A => Q .normal e A
  | .region _ ops false, Q, e, A => wpO P c.own c.N ops (fun e A => Q .normal (keep c.vs e) A) ops.toList e A
  | .region _ ops true, Q, e, A => (dstOk c.N ops = true ∧ Region.lexB .any ops = true ∧ wpD P c.own c.N ops A (fun e => Q .normal (keep c.vs e) A) ops.toList e) ∨ DrawE P c ops Q e A
  | .seq x y, Q, e, A => wpc P c x (AThen (wpc P c y Q) Q) e A
  | .cond b x y, Q, e, A => match evA e b with
    | .bool t => (t = true → wpc P c x Q e A) ∧ (t = false → wpc P c y Q e A)
    | _ => False
  | .block id x, Q, e, A => wpc P c x (ABlk id Q) e A
  | .loop x, Q, e, A => ALoop (fun Q e A => wpc P c x Q e A) Q e A
  | .exit id, Q, e, A => Q (.exit id) e A
  | .ret, Q, e, A => Q .ret e A
  | _, _, _, _ => False

/-- wp_loop with something that goes along -/
theorem wp_loop_along {γ : Type} {P : Program} {Q : Exit → Act → World → Prop} {c : Code} (I : γ → Act → World → Prop) (μ : γ → Nat)
    (round : ∀ g a w, I g a w → c.wp P (Exit.then (fun a' w' => ∃ g', I g' a' w' ∧ μ g' < μ g) Q) a w) {g : γ} {a : Act} {w : World} (h₀ : I g a w) : (Code.loop c).wp P Q a w := by
  intro b k cs
  have key : ∀ n g a w, μ g = n → I g a w →
      ∃ e a' w', Q e a' w' ∧ Arrives P (lone (b.at a (.code c :: .inLoop c :: k)) cs w) b k cs e a' w' := by
    intro n
    induction n using Nat.strongRecOn with
    | _ n ih =>
      intro g a w hn hI
      obtain ⟨e, a₁, w₁, hq, harr⟩ := round g a w hI b (.inLoop c :: k) cs
      cases e with
      | normal =>
        obtain ⟨g₁, hI₁, hlt⟩ := hq
        obtain ⟨e₂, a₂, w₂, hq₂, harr₂⟩ := ih (μ g₁) (hn ▸ hlt) g₁ a₁ w₁ rfl hI₁
        exact ⟨e₂, a₂, w₂, hq₂, .of_steps (Steps.trans harr (.one step_inLoop)) harr₂⟩
      | exit id => exact ⟨_, a₁, w₁, hq, .pass (x := .inLoop c) rfl (fun _ _ => .inl (by simp)) harr⟩
      | goto l => exact ⟨_, a₁, w₁, hq, .pass (x := .inLoop c) rfl (fun _ _ => .inl (by simp)) harr⟩
      | ret => exact ⟨_, a₁, w₁, hq, .pass (x := .inLoop c) rfl (fun _ _ => .inl (by simp)) harr⟩
      | panic ch => exact ⟨_, a₁, w₁, hq, .pass (x := .inLoop c) rfl (fun _ _ => .inl (by simp)) harr⟩
      | outgrown => exact ⟨_, a₁, w₁, hq, .pass (x := .inLoop c) rfl (fun _ _ => .inl (by simp)) harr⟩
  obtain ⟨e, a', w', hq, harr⟩ := key _ g a w rfl h₀
  exact ⟨e, a', w', hq, .of_steps (.one step_loop) harr⟩

theorem ARel.keep {N base : Nat} {G : Ghost} {e : Env} {A : List Box} {a : Act} {w : World} {vs : List Nat} (h : ARel N base G e A a w) : ARel N base G (keep vs e) A a w := ⟨h.defers, h.size, h.env.keep, h.heap⟩

theorem wpc_ok {P : Program} {cf : Cfg} {base : Nat} (hm : P.follows .mixedOrders = true) : ∀ (c : Code) {Q : Exit → Env → List Box → Prop} {e : Env} {A : List Box} {a : Act} {w : World} {G G0 : Ghost} {w0 : World},
    wpc P cf c Q e A → ARel cf.N base G e A a w → Ext G0 w0 G w → Below base w0 w → c.wp P (APost cf.N base G0 w0 Q) a w := by
  intro c
  induction c with
  | skip => exact fun h hr he hb => wp_skip ⟨_, _, _, h, hr, he, hb⟩
  | label l => exact fun h hr he hb => wp_label ⟨_, _, _, h, hr, he, hb⟩
  | region id ops draw =>
    intro Q e A a w G G0 w0 h hr he hb
    cases draw with
    | false =>
      refine wp_region ?_
      have := wpO_ok (Q' := APost cf.N base G0 w0 Q) (fun e A a w G hq hr he hb => ⟨_, _, _, hq, hr.keep, he, hb⟩) ops.toList 0 (by simp) h hr he hb
      have hl : List.range' 0 ops.toList.length = List.range ops.size := by simp [List.range_eq_range']
      rwa [hl] at this
    | true =>
      rcases h with ⟨h1, h2, h3⟩ | ⟨ns, h1, h2, h3, h4, h5⟩ | ⟨ns, s, T, As, m, n, hc, rfl, h9⟩ | ⟨T, As, m, h1, h2, h3, h4, h5, rfl, h6⟩
      · exact wpD_ok hm h1 h2 (fun e a w G hq hr he hb => ⟨_, _, _, hq, hr.keep, he, hb⟩) h3 hr he hb
      · exact wpS_ok ns hm h1 h2 h3 h4 (fun e A a w G hq hr he hb => ⟨_, _, _, hq, hr.keep, he, hb⟩) h5 hr he hb
      · simp only [chkM, Bool.and_eq_true, decide_eq_true_eq] at hc
        obtain ⟨⟨⟨⟨⟨⟨h1, h2⟩, h3⟩, h4⟩, h5⟩, ⟨⟨h6, h7⟩, h8⟩, h10⟩, ⟨h11, h12⟩, h13⟩ := hc
        exact wpM_ok ns s hm h1 h2 h3 h4 h5 h6 h7 (fun j hj => by simpa using List.all_eq_true.1 h8 j hj) h10 h11 h12 h13 (fun e A a w G hq hr he hb => ⟨_, _, _, hq, hr.keep, he, hb⟩) h9 hr he hb
      · exact wpE_ok hm h1 h2 h3 h4 h5 (fun e a w G hq hr he hb => ⟨_, _, _, hq, hr.keep, he, hb⟩) h6 hr he hb
  | seq x y ihx ihy =>
    intro Q e A a w G G0 w0 h hr he hb
    refine wp_seq (wp_mono (ihx h hr he hb) fun x a w hp => ?_)
    obtain ⟨e', A', G', hq, hr', he', hb'⟩ := hp
    cases x with
    | normal => exact ihy hq hr' he' hb'
    | _ => exact ⟨e', A', G', hq, hr', he', hb'⟩
  | cond b x y ihx ihy =>
    intro Q e A a w G G0 w0 h hr he hb
    simp only [wpc] at h
    split at h
    · rename_i t ht
      have hv := evA_ok hr.env b
      rw [ht] at hv
      have hb' : a.eval b = .bool t := by
        generalize a.eval b = q at hv
        cases hv; rfl
      refine wp_cond hb' ?_
      cases t with
      | true => exact ihx (h.1 rfl) hr he hb
      | false => exact ihy (h.2 rfl) hr he hb
    · exact h.elim
  | block id x ih =>
    intro Q e A a w G G0 w0 h hr he hb
    refine wp_block (wp_mono (ih h hr he hb) fun x a w hp => ?_)
    obtain ⟨e', A', G', hq, hr', he', hb'⟩ := hp
    cases x with
    | exit j =>
      simp only [ABlk] at hq
      simp only [Exit.inBlock]
      split <;> rename_i hj
      · rw [if_pos hj] at hq; exact ⟨e', A', G', hq, hr', he', hb'⟩
      · rw [if_neg hj] at hq; exact ⟨e', A', G', hq, hr', he', hb'⟩
    | _ => exact ⟨e', A', G', hq, hr', he', hb'⟩
  | loop x ih =>
    intro Q e A a w G G0 w0 h hr he hb
    obtain ⟨vs, I, μ, h0, hround⟩ := h
    refine wp_loop_along (γ := Env × List Box) (fun g a w => I g.1 g.2 ∧ ∃ G, ARel cf.N base G g.1 g.2 a w ∧ Ext G0 w0 G w ∧ Below base w0 w) (fun g => μ g.1 g.2) (fun g a w hI => ?_) (g := (keep vs e, A)) ⟨h0, G, hr.keep, he, hb⟩
    obtain ⟨hI, G1, hr1, he1, hb1⟩ := hI
    refine wp_mono (ih (hround g.1 g.2 hI) hr1 he1 hb1) fun x a w hp => ?_
    obtain ⟨e', A', G', hq, hr', he', hb'⟩ := hp
    cases x with
    | normal => exact ⟨(keep vs e', A'), ⟨hq.1, G', hr'.keep, he', hb'⟩, hq.2⟩
    | _ => exact ⟨e', A', G', hq, hr', he', hb'⟩
  | exit id => exact fun h hr he hb => wp_exit ⟨_, _, _, h, hr, he, hb⟩
  | ret => exact fun h hr he hb => wp_ret ⟨_, _, _, h, hr, he, hb⟩
  | _ => exact fun h => (by simp [wpc] at h)


/-! ### what is below a number -/
inductive Low (n : Nat) : AV → Prop
  | bot : Low n .bot
  | int (k : IntKind) (i : Int) : Low n (.int k i)
  | bool (b : Bool) : Low n (.bool b)
  | str (s : List UInt8) : Low n (.str s)
  | agg (cs : List AV) (h : ∀ c ∈ cs, Low n c) : Low n (.agg cs)
  | tuple (cs : List AV) (h : ∀ c ∈ cs, Low n c) : Low n (.tuple cs)
  | slice (r : List (List AV)) : Low n (.slice r)
  | own (i : Nat) (h : i < n) : Low n (.own i)
  | nils : Low n .nils
  | ptr (i o : Nat) (h : i < n) : Low n (.ptr i o)
  | eptr (i k j : Nat) (h : i < n) : Low n (.eptr i k j)
  | vptr (cs : List AV) : Low n (.vptr cs)
  | nilp : Low n .nilp
  | func (fn : Fn) (f c : List AV) (h : ∀ x ∈ f, Low n x) (h' : ∀ x ∈ c, Low n x) : Low n (.func fn f c)
  | nilf : Low n .nilf
  | iface (t : TypeId) (v : AV) : Low n (.iface t v)
  | nili : Low n .nili
  | map (i : Nat) (h : i < n) : Low n (.map i)
  | nilm : Low n .nilm
  | aslice (r : List (List AV)) : Low n (.aslice r)
  | islice (b o : Nat) (r : List (List AV)) : Low n (.islice b o r)
  | ivptr (b o : Nat) (cs : List AV) : Low n (.ivptr b o cs)

theorem getD_of_mem {α : Type} {l : List α} {x d : α} (h : x ∈ l) : ∃ i, i < l.length ∧ l.getD i d = x := by
  obtain ⟨i, hi, rfl⟩ := List.getElem_of_mem h
  exact ⟨i, hi, by simp [List.getD, hi]⟩

theorem RV.low {G : Ghost} {w : World} {v : AV} {x : Value} (h : RV G w v x) : Low G.n v := by
  induction h with
  | agg cs xs hs hc h ih => exact .agg cs fun c hc => by obtain ⟨i, hi, rfl⟩ := getD_of_mem (d := .bot) hc; exact ih i hi
  | tuple cs xs hs h ih => exact .tuple cs fun c hc => by obtain ⟨i, hi, rfl⟩ := getD_of_mem (d := .bot) hc; exact ih i hi
  | slice0 => exact .slice []
  | sliceE a cap => exact .slice []
  | slice rows => exact .slice rows
  | aslice0 => exact .aslice []
  | asliceE a cap => exact .aslice []
  | aslice rows => exact .aslice rows
  | islice rows b off => exact .islice b off rows
  | ivptr cs b off => exact .ivptr b off cs
  | own i hi => exact .own i hi
  | ptr i o hi => exact .ptr i o hi
  | eptr i k j hi => exact .eptr i k j hi
  | vptr cs => exact .vptr cs
  | func fn first captured xs ys hs ht h h' ih ih' =>
    exact .func fn first captured (fun c hc => by obtain ⟨i, hi, rfl⟩ := getD_of_mem (d := .bot) hc; exact ih i hi) (fun c hc => by obtain ⟨i, hi, rfl⟩ := getD_of_mem (d := .bot) hc; exact ih' i hi)
  | iface t v => exact .iface t v
  | map i hi => exact .map i hi
  | _ => constructor

theorem leaf_low {n : Nat} {v : AV} (h : isLeaf v = true) : Low n v := by
  cases v <;> simp [isLeaf] at h <;> try (constructor; done)
  case func fn f c =>
    cases f <;> cases c <;> simp [isLeaf] at h
    exact .func fn [] [] (by simp) (by simp)

theorem whole_low {n : Nat} {v : AV} (h : isWhole v = true) : Low n v := by
  cases v with
  | agg cs => exact .agg cs fun c hc => leaf_low (by simp only [isWhole, List.all_eq_true] at h; exact h c hc)
  | _ => exact leaf_low (by simpa [isWhole] using h)

theorem closed1_low {n : Nat} {v : AV} (h : closed1 n v = true) : Low n v := by
  cases v <;> simp [closed1] at h <;> try (constructor; done)
  case own i => exact .own i h
  case ptr i o => exact .ptr i o h
  case eptr i k j => exact .eptr i k j h
  case map i => exact .map i h
  case func fn f c =>
    cases f <;> cases c <;> simp [closed1] at h
    exact .func fn [] [] (by simp) (by simp)

theorem closed2_low {n : Nat} {v : AV} (h : closed2 n v = true) : Low n v := by
  cases v with
  | agg cs => exact .agg cs fun c hc => closed1_low (by simp only [closed2, List.all_eq_true] at h; exact h c hc)
  | func fn f c =>
    simp only [closed2, Bool.and_eq_true, List.all_eq_true] at h
    exact .func fn f c (fun x hx => closed1_low (h.1 x hx)) (fun x hx => closed1_low (h.2 x hx))
  | _ => exact closed1_low (by simpa [closed2] using h)

theorem closed_low {n : Nat} {v : AV} (h : closed n v = true) : Low n v := by
  cases v with
  | tuple cs => exact .tuple cs fun c hc => closed2_low (by simp only [closed, List.all_eq_true] at h; exact h c hc)
  | _ => exact closed2_low (by simpa [closed] using h)

theorem RV.cutL {G : Ghost} {w : World} (n : Nat) {v : AV} {x : Value} (h : RV G w v x) : Low n v → RV (G.cut n) w v x := by
  induction h with
  | bot x => intro _; exact .bot x
  | int k n => intro _; exact .int k n
  | bool b => intro _; exact .bool b
  | str s => intro _; exact .str s
  | agg cs xs hs hc h ih => intro hk; cases hk with | agg _ hk => exact .agg cs xs hs hc fun i hi => ih i hi (hk _ (getD_mem hi))
  | tuple cs xs hs h ih => intro hk; cases hk with | tuple _ hk => exact .tuple cs xs hs fun i hi => ih i hi (hk _ (getD_mem hi))
  | slice0 => intro _; exact .slice0
  | sliceE a cap => intro _; exact .sliceE a cap
  | slice rows b off cap sz X hr hcap hx hI hz h ih => intro _; exact .slice rows b off cap sz X hr hcap hx hI hz fun i j hi hj => ih i j hi hj (leaf_low (rowAt_mem hr hi hj))
  | aslice0 => intro _; exact .aslice0
  | asliceE a cap => intro _; exact .asliceE a cap
  | aslice rows b off cap sz X hr hcap hx hI h ih => intro _; exact .aslice rows b off cap sz X hr hcap hx hI fun i j hi hj => ih i j hi hj (leaf_low (rowAt_mem hr hi hj))
  | islice rows b off cap sz X hr hcap hx hI hz hs hl h ih => intro _; exact .islice rows b off cap sz X hr hcap hx hI hz hs hl fun i j hi hj => ih i j hi hj (leaf_low (rowAt_mem hr hi hj))
  | ivptr cs b off X hl hn hx hI hz h ih => intro _; exact .ivptr cs b off X hl hn hx hI hz fun j hj => ih j hj (leaf_low (hl _ (getD_mem hj)))
  | own i hi => intro hk; cases hk with | own _ hk => exact .own (G := G.cut n) i hk
  | nils => intro _; exact .nils
  | ptr i o hi => intro hk; cases hk with | ptr _ _ hk => exact .ptr (G := G.cut n) i o hk
  | eptr i k j hi => intro hk; cases hk with | eptr _ _ _ hk => exact .eptr (G := G.cut n) i k j hk
  | vptr cs b off X hl hx hI h ih => intro _; exact .vptr cs b off X hl hx hI fun j hj => ih j hj (leaf_low (hl _ (getD_mem hj)))
  | nilp => intro _; exact .nilp
  | func fn first captured xs ys hs ht h h' ih ih' =>
    intro hk; cases hk with | func _ _ _ k1 k2 => exact .func fn first captured xs ys hs ht (fun i hi => ih i hi (k1 _ (getD_mem hi))) (fun i hi => ih' i hi (k2 _ (getD_mem hi)))
  | nilf => intro _; exact .nilf
  | iface t v x hv h ih => intro _; exact .iface t v x hv (ih (whole_low hv))
  | nili => intro _; exact .nili
  | map i hi => intro hk; cases hk with | map _ hk => exact .map (G := G.cut n) i hk
  | nilm => intro _; exact .nilm

def BoxLow (n : Nat) : Box → Prop
  | .cells cs => ∀ c ∈ cs, Low n c
  | .tc _ cs => ∀ c ∈ cs, Low n c
  | .gr _ _ rows => ∀ r ∈ rows, ∀ c ∈ r, Low n c
  | .mapb es => ∀ e ∈ es, Low n e.1 ∧ Low n e.2
  | _ => True

theorem boxClosed_low {n : Nat} {b : Box} (h : boxClosed n b = true) : BoxLow n b := by
  cases b with
  | cells cs => exact fun c hc => closed1_low (by simp only [boxClosed, List.all_eq_true] at h; exact h c hc)
  | tc T cs => exact fun c hc => closed1_low (by simp only [boxClosed, List.all_eq_true] at h; exact h c hc)
  | gr te sz rows => exact fun r hr c hc => closed1_low (by simp only [boxClosed, List.all_eq_true] at h; exact h r hr c hc)
  | mapb es =>
    intro e he
    simp only [boxClosed, List.all_eq_true, Bool.and_eq_true] at h
    exact ⟨closed2_low (h e he).1, closed2_low (h e he).2⟩
  | _ => trivial

theorem HRel.low' {G : Ghost} {A : List Box} {w : World} {base : Nat} (h : HRel G A w base) (i : Nat) (hi : i < A.length) : BoxLow A.length (A.getD i .dead) := by
  have hb := h.box i hi
  cases hq : A.getD i .dead with
  | cells cs =>
    rw [hq] at hb
    obtain ⟨c, el, h1, h3, h4, h5, h6⟩ := hb
    intro x hx
    obtain ⟨j, hj, rfl⟩ := getD_of_mem (d := .bot) hx
    rw [← h.n]; exact (h5 j hj).low
  | tc T cs =>
    rw [hq] at hb
    obtain ⟨c, h1, h3, h4, h5, h6⟩ := hb
    intro x hx
    obtain ⟨j, hj, rfl⟩ := getD_of_mem (d := .bot) hx
    rw [← h.n]; exact (h5 j hj).low
  | gr te sz rows =>
    rw [hq] at hb
    obtain ⟨⟨c, el, h1, h3, h4, h5, h6, h7, h8, h9, h10, h11⟩, ht⟩ := hb
    intro r hr x hx
    obtain ⟨k, hk, rfl⟩ := getD_of_mem (d := []) hr
    obtain ⟨j, hj, rfl⟩ := getD_of_mem (d := .bot) hx
    rw [← h.n]; exact (h10 k j hk (by rw [← (h9 _ hr).1]; exact hj)).low
  | mapb es =>
    rw [hq] at hb
    obtain ⟨m, cl, h1, h3, h4, h5⟩ := hb
    intro x hx
    obtain ⟨j, hj, rfl⟩ := getD_of_mem (d := (.bot, .bot)) hx
    rw [← h.n]; exact ⟨(h4 j hj).1.low, (h4 j hj).2.low⟩
  | _ => trivial

/-- the last boxes are forgotten -/
theorem HRel.cutL {G : Ghost} {A B : List Box} {w : World} {base : Nat} (h : HRel G (A ++ B) w base) (hc : ∀ i, i < A.length → BoxLow A.length (A.getD i .dead)) :
    HRel (G.cut A.length) A w base := by
  have hlen : ∀ i, i < A.length → i < (A ++ B).length := fun i hi => by simp; omega
  refine ⟨rfl, fun i hi => ?_, fun i j hi hj hne li lj => ?_, fun i hi li => ?_, h.imm, h.low⟩
  · have hb := h.box i (hlen i hi)
    have hcl := hc i hi
    rw [getD_append_left hi] at hb
    cases hbx : A.getD i .dead with
    | dead => trivial
    | cells cs =>
      rw [hbx] at hb hcl
      obtain ⟨c, el, h1, h3, h4, h5, h6⟩ := hb
      exact ⟨c, el, h1, h3, h4, fun j hj => (h5 j hj).cutL _ (hcl _ (getD_mem hj)), h6⟩
    | row sz rows s =>
      rw [hbx] at hb
      obtain ⟨c, el, h1, h3, h4, h5, h6, h7, h8, h9, h10, h11⟩ := hb
      exact ⟨c, el, h1, h3, h4, h5, h6, h7, h8, h9, fun k j hk hj => (h10 k j hk hj).cutL _ (leaf_low (rowAt_mem h9 hk hj)), h11⟩
    | tc T cs =>
      rw [hbx] at hb hcl
      obtain ⟨c, h1, h3, h4, h5, h6⟩ := hb
      exact ⟨c, h1, h3, h4, fun j hj => (h5 j hj).cutL _ (hcl _ (getD_mem hj)), h6⟩
    | gr te sz rows =>
      rw [hbx] at hb hcl
      obtain ⟨⟨c, el, h1, h3, h4, h5, h6, h7, h8, h9, h10, h11⟩, ht⟩ := hb
      refine ⟨⟨c, el, h1, h3, h4, h5, h6, h7, h8, h9, fun k j hk hj => (h10 k j hk hj).cutL _ ?_, h11⟩, ht⟩
      have hm := getD_mem (d := []) hk
      exact hcl _ hm _ (getD_mem (by have := (h9 _ hm).1; omega))
    | mapb es =>
      rw [hbx] at hb hcl
      obtain ⟨m, cl, h1, h3, h4, h5⟩ := hb
      exact ⟨m, cl, h1, h3, fun j hj => ⟨(h4 j hj).1.cutL _ (hcl _ (getD_mem hj)).1, (h4 j hj).2.cutL _ (hcl _ (getD_mem hj)).2⟩, h5⟩
  · exact h.sep i j (hlen i hi) (hlen j hj) hne (by rw [getD_append_left hi]; exact li) (by rw [getD_append_left hj]; exact lj)
  · exact h.bnd i (hlen i hi) (by rw [getD_append_left hi]; exact li)

/-! ### functions -/
def entry (args : List AV) : Env := args.zipIdx.map fun (v, i) => (i, v)

/-- what lies in a result's variable -/
def resCell (ti : TI) (cs : List AV) : Option AV :=
  match ti.kind with
  | .struct _ => if ti.size ≤ cs.length then some (.agg (cs.take ti.size)) else none
  | .other => none
  | _ => if 0 < cs.length then some (cs.getD 0 .bot) else none

theorem resCell_load {ti : TI} {cs : List AV} {v : AV} (h : resCell ti cs = some v) : ∃ c, loadA ti cs = some (c, v) ∧ c := by
  unfold resCell at h
  unfold loadA
  cases hk : ti.kind <;> simp only [hk] at h ⊢ <;> first
    | (split at h
       · injection h with h; subst h; exact ⟨_, rfl, ‹_›⟩
       · cases h)
    | cases h

theorem loadVar_same {P : Program} {G : Ghost} {A : List Box} {w : World} {base : Nat} {t : TypeId} {ti : TI} {p v : AV} {x : Value} {cs : List AV} {c : Prop}
    (ht : tinf P t = some ti) (hc : cellsOf A p = some cs) (hl : loadA ti cs = some (c, v)) (hp : c) (h : HRel G A w base) (hx : RV G w p x) :
    ∃ a y, x = .pointer (some a) ∧ (loadVar t a).run P w = .ok y w ∧ RV G w v y := by
  obtain ⟨i, d, h1, h2, h3, h4, h5, h6⟩ := tinf_spec ht
  obtain ⟨b, off, rfl, hcs⟩ := cellsOf_ok h hx hc
  refine ⟨⟨b, off, none⟩, ?_⟩
  unfold loadA at hl
  have one : (0 < cs.length ∧ cs.getD 0 .bot = v) → isAggD d = false → ∃ y, Value.pointer (some ⟨b, off, none⟩) = .pointer (some ⟨b, off, none⟩) ∧ (loadVar t ⟨b, off, none⟩).run P w = .ok y w ∧ RV G w v y := fun ⟨h7, h8⟩ hd => by
    obtain ⟨y, hy, hv, _⟩ := hcs 0 h7
    rw [h8] at hv
    refine ⟨y, rfl, ?_, hv⟩
    simp only [Nat.add_zero] at hy
    simp [loadVar, isAgg_run h2, hd, Result.andThen, hy]
  cases hd : d <;> simp only [h6, hd, tkOf] at hl <;> try (cases hl; done)
  case struct fs =>
    injection hl with hl; injection hl with hl1 hl2; subst hl1 hl2
    refine ⟨.agg ((List.range i.size).map fun j => (w.cell? ⟨b, off + j, none⟩).getD undef).toArray, rfl, ?_, .agg _ _ (by simp; omega) ?_ fun j hj => ?_⟩
    · simp only [loadVar]
      have := run_loadCells (P := P) w ⟨b, off, none⟩ i.size (fun j => (w.cell? ⟨b, off + j, none⟩).getD undef) (fun j hj => by
        obtain ⟨y, hy, _, _⟩ := hcs j (by omega)
        rw [Addr.add_lit, hy]; rfl)
      simp [isAgg_run h2, hd, isAggD, Result.andThen, sizeOf_run h1, this]
    · intro y hy
      simp only [List.mem_toArray, List.mem_map, List.mem_range] at hy
      obtain ⟨j, hj, rfl⟩ := hy
      obtain ⟨y, hy, _, h9⟩ := hcs j (by omega)
      simp [hy, h9]
    · simp only [List.length_take] at hj
      obtain ⟨y, hy, hv, h9⟩ := hcs j (by omega)
      rw [getD_take _ _ _ _ (by omega)]
      have : j < i.size := by omega
      simpa [Array.getD, this, hy] using hv
  all_goals
    injection hl with hl; injection hl with hl1 hl2
    exact one ⟨hl1 ▸ hp, hl2⟩ (by rw [hd]; rfl)

def rvs (P : Program) (A : List Box) (e : Env) : List ResultVar → Option (List AV)
  | [] => some []
  | .tmp t :: l => (rvs P A e l).map fun vs => look t e :: vs
  | .cell a t :: l => match tinf P t, cellsOf A (look a e) with
    | some ti, some cs => match resCell ti cs with
      | some v => (rvs P A e l).map fun vs => v :: vs
      | none => none
    | _, _ => none

def retVal (P : Program) (A : List Box) (rs : List ResultVar) (e : Env) : Option AV :=
  match rvs P A e rs with
  | some [v] => some v
  | some vs => some (.tuple vs)
  | none => none

/-- tuples of data -/
def frzT (v : AV) (A : List Box) : Option (AV × List Box) :=
  match v with
  | .tuple vs => (frzs vs A).map fun x => (.tuple x.1, x.2)
  | v => frzC v A

def Outer (A0 A : List Box) : Prop := A0.length ≤ A.length ∧ ∀ i, i < A0.length → A.getD i .dead = A0.getD i .dead ∨ boxClosed A0.length (A.getD i .dead) = true

/-- a function's end: what it hands back is data, its own boxes are forgotten -/
def ARet (P : Program) (rs : List ResultVar) (A0 : List Box) (R : AV → List Box → Prop) : Exit → Env → List Box → Prop
  | .normal, e, A | .ret, e, A => match retVal P A rs e with
    | some v => match frzT v A with
      | some (v', A') => closed A0.length v' = true ∧ Outer A0 A' ∧ R v' (A'.take A0.length)
      | none => False
    | none => False
  | _, _, _ => False


theorem look_zip (t : Nat) : ∀ (args : List AV) (k : Nat), look t ((args.zipIdx k).map fun (v, i) => (i, v)) = if k ≤ t then args.getD (t - k) .bot else .bot
  | [], k => by simp [look]
  | v :: args, k => by
    simp only [List.zipIdx_cons, List.map_cons, look]
    have ih := look_zip t args (k + 1)
    by_cases h : k = t
    · subst h; simp
    · rw [if_neg h, ih]
      by_cases h1 : k + 1 ≤ t
      · rw [if_pos h1, if_pos (by omega), show t - k = (t - (k + 1)) + 1 by omega]; simp
      · rw [if_neg h1]
        by_cases h2 : k ≤ t
        · omega
        · rw [if_neg h2]

theorem look_entry (t : Nat) (args : List AV) : look t (entry args) = args.getD t .bot := by
  have := look_zip t args 0
  simpa [entry] using this

theorem frzT_ok {G : Ghost} {A A' : List Box} {w : World} {base : Nat} {v v' : AV} {x : Value} (h : HRel G A w base) (hx : RV G w v x) (hf : frzT v A = some (v', A')) :
    ∃ G', HRel G' A' w base ∧ Ext G w G' w ∧ RV G' w v' x := by
  unfold frzT at hf
  split at hf
  · rename_i cs
    cases hx with
    | tuple _ xs hs hh =>
      cases hq : frzs cs A with
      | none => rw [hq] at hf; cases hf
      | some q =>
        rw [hq] at hf; cases hf
        obtain ⟨G', k1, k2, k3⟩ := frzs_ok h (RL.ofArr hs hh) hq
        refine ⟨G', k1, k2, .tuple _ xs (by have := k3.1; simp at this; omega) fun i hi => ?_⟩
        have := k3.toArr i hi
        simpa using this
  · exact frzC_ok h hx hf

def resOne (tmps : Array Value) (r : ResultVar) : Sem Value :=
  match r with
  | .tmp t => pure (tmps.getD t undef)
  | .cell a t => do loadVar t (← asAddr (tmps.getD a undef))

theorem results_eq (fn : Func) (tmps : Array Value) : results fn tmps = (do let vs ← fn.results.mapM (resOne tmps); pure (if h : vs.size = 1 then vs[0] else .tuple vs) : Sem Value) := rfl

theorem rvs_ok {P : Program} {G : Ghost} {A : List Box} {base : Nat} {w : World} {e : Env} {tmps : Array Value} (hh : HRel G A w base) (h : EnvOk G w e tmps) : ∀ {rs : List ResultVar} {vs : List AV}, rvs P A e rs = some vs →
    ∃ xs, (rs.mapM (resOne tmps)).run P w = .ok xs w ∧ RL G w vs xs
  | [], vs, hv => by simp only [rvs] at hv; cases hv; exact ⟨[], by simp, .nil⟩
  | .tmp t :: l, vs, hv => by
    simp only [rvs] at hv
    cases hq : rvs P A e l with
    | none => rw [hq] at hv; cases hv
    | some us =>
      rw [hq] at hv; cases hv
      obtain ⟨xs, h1, h2⟩ := rvs_ok (P := P) hh h hq
      exact ⟨_ :: xs, by simp [List.mapM_cons, Result.andThen, resOne, h1], .cons (h t) h2⟩
  | .cell a t :: l, vs, hv => by
    simp only [rvs] at hv
    split at hv
    · rename_i ti cs hti hcs
      split at hv
      · rename_i v hrc
        cases hq : rvs P A e l with
        | none => rw [hq] at hv; cases hv
        | some us =>
          rw [hq] at hv; cases hv
          obtain ⟨xs, h1, h2⟩ := rvs_ok (P := P) hh h hq
          obtain ⟨c, hl, hc⟩ := resCell_load hrc
          obtain ⟨ad, y, k1, k2, k3⟩ := loadVar_same (P := P) hti hcs hl hc hh (h a)
          exact ⟨y :: xs, by simp [List.mapM_cons, Result.andThen, resOne, h1, k1, asAddr, k2], .cons k3 h2⟩
      · cases hv
    · cases hv

theorem retVal_ok {P : Program} {G : Ghost} {A : List Box} {base : Nat} {w : World} {e : Env} {tmps : Array Value} {fn : Func} {v : AV} (hh : HRel G A w base) (h : EnvOk G w e tmps) (hv : retVal P A fn.results.toList e = some v) : ∃ x, (results fn tmps).run P w = .ok x w ∧ RV G w v x := by
  unfold retVal at hv
  cases hq : rvs P A e fn.results.toList with
  | none => rw [hq] at hv; cases hv
  | some vs =>
    rw [hq] at hv
    obtain ⟨xs, h1, h2⟩ := rvs_ok (P := P) hh h hq
    have hrun : (results fn tmps).run P w = .ok (if h : xs.toArray.size = 1 then xs.toArray[0] else .tuple xs.toArray) w := by
      rw [results_eq, Array.mapM_eq_mapM_toList]
      simp [Result.andThen, h1]
    rw [hrun]
    split at hv
    · rename_i v0 hvs
      cases hvs
      cases hv
      obtain ⟨x, rfl, hx⟩ := h2.one
      exact ⟨x, by simp, hx⟩
    · rename_i vs' hne hvs
      cases hvs
      cases hv
      have hl := h2.1
      have hn1 : xs.toArray.size ≠ 1 := fun h1 => by
        have h3 : vs.length = 1 := by simp at h1; omega
        match vs, h3, hne with
        | [a], _, hne => exact hne a rfl
      rw [dif_neg hn1]
      exact ⟨_, rfl, .tuple vs _ (by simp [hl]) h2.toArr⟩
    · rename_i hvs; cases hvs

theorem acalls_intro {P : Program} {cf : Cfg} {f : FuncId} {fn : Func} {c : Code} {args : List AV} {A : List Box} {R : AV → List Box → Prop} (hm : P.follows .mixedOrders = true) (hf : P.funcs[f]? = some fn) (hb : fn.body = some c)
    (hN : fn.ntmps = cf.N) (hl : args.length ≤ cf.N) (h : wpc P cf c (ARet P fn.results.toList A R) (entry args) A) : ACalls P f args A R := by
  intro G w base xs hH hx
  have hxl : args.length = xs.size := by have := hx.1; simpa using this
  refine calls_of_wp hf hb (wp_mono (wpc_ok (base := base) (G := G) (G0 := G) (w0 := w) hm c h ⟨rfl, by simp [hN]; omega, fun t => ?_, hH⟩ (Ext.refl _ _) (Below.refl _ _)) fun x a w' hp => ?_)
  · rw [look_entry]
    by_cases ht : t < args.length
    · have h1 := hx.toArr t ht
      have h2 : (xs ++ Array.replicate (fn.ntmps - xs.size) undef).getD t undef = xs.getD t undef := by
        rw [Array.getD_eq_getD_getElem?, Array.getD_eq_getD_getElem?, Array.getElem?_append_left (by omega)]
      rw [h2]
      simpa using h1
    · have : args.getD t .bot = .bot := by simp [List.getD, Nat.not_lt.1 ht]
      rw [this]; exact .bot _
  · obtain ⟨e', A', G', hq, hr, he, hbel⟩ := hp
    have fin : ARet P fn.results.toList A R .ret e' A' → a.defers = [] ∧ ∃ v, (results fn a.tmps).run P w' = .ok v w' ∧ ∃ x v' A' G', Ending.returned v = .returned x ∧ R v' A' ∧ RV G' w' v' x ∧ HRel G' A' w' base ∧ Ext G w G' w' ∧ Below base w w' := fun hq => by
      refine ⟨hr.defers, ?_⟩
      simp only [ARet] at hq
      split at hq
      · rename_i v hv
        obtain ⟨x, hx1, hx2⟩ := retVal_ok (P := P) hr.heap hr.env hv
        split at hq
        · rename_i v' A1 hfr
          obtain ⟨q1, q2, q3⟩ := hq
          obtain ⟨G1, k1, k2, k3⟩ := frzT_ok hr.heap hx2 hfr
          have htl : (A1.take A.length).length = A.length := by rw [List.length_take]; exact Nat.min_eq_left q2.1
          have hlow : ∀ i, i < (A1.take A.length).length → BoxLow (A1.take A.length).length ((A1.take A.length).getD i .dead) := fun i hi => by
            rw [htl] at hi ⊢
            rw [getD_take _ _ _ _ hi]
            rcases q2.2 i hi with hh | hh
            · rw [hh]; exact hH.low' i hi
            · exact boxClosed_low hh
          have k1' : HRel G1 (A1.take A.length ++ A1.drop A.length) w' base := by rw [List.take_append_drop]; exact k1
          have hcut := k1'.cutL hlow
          rw [htl] at hcut
          have e1 := he.trans k2
          refine ⟨x, hx1, x, v', A1.take A.length, G1.cut A.length, rfl, q3, k3.cutL _ (closed_low q1), hcut, ⟨by rw [hH.n]; exact Nat.le_refl _, e1.I, e1.cell, fun i hi => e1.ids i hi, e1.fz⟩, hbel⟩
        · exact hq.elim
      · exact hq.elim
    cases x with
    | normal => exact fin hq
    | ret => exact fin hq
    | exit id => exact hq.elim
    | goto l => exact hq.elim
    | panic ch => exact hq.elim
    | outgrown => exact hq.elim

end Go.Abs
