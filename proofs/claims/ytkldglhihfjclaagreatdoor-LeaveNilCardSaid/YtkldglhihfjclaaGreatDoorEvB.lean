import Derived.Test.YtkldglhihfjclaaGreatDoorEvA
namespace Go.Ev

/-! A tree by numbers. -/
inductive Tr (α : Type) where
  | tip
  | bin (l : Tr α) (v : Option α) (r : Tr α)
namespace Tr
variable {α : Type}
/-- Each step halves the number. (By the recursors themselves: the kernel goes through them fastest.) -/
noncomputable def get (t : Tr α) : Nat → Option α := Tr.rec (motive := fun _ => Nat → Option α) (fun _ => none)
  (fun _ v _ ihl ihr k => Nat.rec (motive := fun _ => Option α) v (fun k' _ => Bool.rec (motive := fun _ => Option α) (ihr (k' / 2)) (ihl (k' / 2)) (Nat.beq (k' % 2) 0)) k) t
noncomputable def set (n : Nat) : Tr α → Nat → Option α → Tr α := Nat.rec (motive := fun _ => Tr α → Nat → Option α → Tr α) (fun t _ _ => t)
  (fun _ ih t k x => Tr.rec (motive := fun _ => Tr α)
    (Nat.rec (motive := fun _ => Tr α) (.bin .tip x .tip) (fun k' _ => Bool.rec (motive := fun _ => Tr α) (.bin .tip none (ih .tip (k' / 2) x)) (.bin (ih .tip (k' / 2) x) none .tip) (Nat.beq (k' % 2) 0)) k)
    (fun l v r _ _ => Nat.rec (motive := fun _ => Tr α) (.bin l x r) (fun k' _ => Bool.rec (motive := fun _ => Tr α) (.bin l v (ih r (k' / 2) x)) (.bin (ih l (k' / 2) x) v r) (Nat.beq (k' % 2) 0)) k) t) n
theorem get_tip (k : Nat) : get (.tip : Tr α) k = none := rfl
theorem get_zero (l : Tr α) (v : Option α) (r : Tr α) : get (.bin l v r) 0 = v := rfl
theorem get_even {k : Nat} (h : Nat.beq (k % 2) 0 = true) (l : Tr α) (v : Option α) (r : Tr α) : get (.bin l v r) (k + 1) = get l (k / 2) := by
  show Bool.rec (motive := fun _ => Option α) (get r (k / 2)) (get l (k / 2)) (Nat.beq (k % 2) 0) = _
  rw [h]
theorem get_odd {k : Nat} (h : Nat.beq (k % 2) 0 = false) (l : Tr α) (v : Option α) (r : Tr α) : get (.bin l v r) (k + 1) = get r (k / 2) := by
  show Bool.rec (motive := fun _ => Option α) (get r (k / 2)) (get l (k / 2)) (Nat.beq (k % 2) 0) = _
  rw [h]
/-- A tree as one with a root. -/
def spread : Tr α → Tr α × Option α × Tr α
  | .tip => (.tip, none, .tip)
  | .bin l v r => (l, v, r)
theorem get_spread (t : Tr α) (k : Nat) : get t k = get (.bin (spread t).1 (spread t).2.1 (spread t).2.2) k := by
  cases t with
  | tip =>
    cases k with
    | zero => rfl
    | succ k => cases h : Nat.beq (k % 2) 0 <;> simp [spread, get_even, get_odd, h, get_tip]
  | bin l v r => rfl
theorem set_zero (n : Nat) (t : Tr α) (x : Option α) : set (n + 1) t 0 x = .bin (spread t).1 x (spread t).2.2 := by cases t <;> rfl
theorem set_even {k : Nat} (h : Nat.beq (k % 2) 0 = true) (n : Nat) (t : Tr α) (x : Option α) : set (n + 1) t (k + 1) x = .bin (set n (spread t).1 (k / 2) x) (spread t).2.1 (spread t).2.2 := by
  cases t with
  | tip => show Bool.rec (motive := fun _ => Tr α) _ _ (Nat.beq (k % 2) 0) = _; rw [h]; rfl
  | bin l v r => show Bool.rec (motive := fun _ => Tr α) _ _ (Nat.beq (k % 2) 0) = _; rw [h]; rfl
theorem set_odd {k : Nat} (h : Nat.beq (k % 2) 0 = false) (n : Nat) (t : Tr α) (x : Option α) : set (n + 1) t (k + 1) x = .bin (spread t).1 (spread t).2.1 (set n (spread t).2.2 (k / 2) x) := by
  cases t with
  | tip => show Bool.rec (motive := fun _ => Tr α) _ _ (Nat.beq (k % 2) 0) = _; rw [h]; rfl
  | bin l v r => show Bool.rec (motive := fun _ => Tr α) _ _ (Nat.beq (k % 2) 0) = _; rw [h]; rfl
theorem get_set_same : ∀ (n : Nat) (t : Tr α) (k : Nat) (v : Option α), k + 1 < 2 ^ n → get (set n t k v) k = v
  | 0, _, _, _, h => by simp at h
  | n + 1, t, 0, v, _ => by rw [set_zero, get_zero]
  | n + 1, t, k + 1, v, h => by
    have h2 : k / 2 + 1 < 2 ^ n := by rw [Nat.pow_succ] at h; omega
    cases hb : Nat.beq (k % 2) 0 with
    | true => rw [set_even hb, get_even hb, get_set_same n _ _ _ h2]
    | false => rw [set_odd hb, get_odd hb, get_set_same n _ _ _ h2]
theorem get_set_ne : ∀ (n : Nat) (t : Tr α) (k j : Nat) (v : Option α), j ≠ k → get (set n t k v) j = get t j
  | 0, _, _, _, _, _ => rfl
  | n + 1, t, 0, j, v, hne => by
    rw [set_zero, get_spread t]
    cases j with
    | zero => exact absurd rfl hne
    | succ j => cases hb : Nat.beq (j % 2) 0 <;> simp [get_even, get_odd, hb]
  | n + 1, t, k + 1, j, v, hne => by
    rw [get_spread t]
    cases hb : Nat.beq (k % 2) 0 with
    | true =>
      rw [set_even hb]
      cases j with
      | zero => rfl
      | succ j =>
        cases hc : Nat.beq (j % 2) 0 with
        | true =>
          rw [get_even hc, get_even hc]
          refine get_set_ne n _ _ _ _ fun e => hne ?_
          have h1 : k % 2 = 0 := Nat.eq_of_beq_eq_true hb
          have h2 : j % 2 = 0 := Nat.eq_of_beq_eq_true hc
          omega
        | false => rw [get_odd hc, get_odd hc]
    | false =>
      rw [set_odd hb]
      cases j with
      | zero => rfl
      | succ j =>
        cases hc : Nat.beq (j % 2) 0 with
        | true => rw [get_even hc, get_even hc]
        | false =>
          rw [get_odd hc, get_odd hc]
          refine get_set_ne n _ _ _ _ fun e => hne ?_
          have h1 : k % 2 ≠ 0 := fun e => by rw [e] at hb; cases hb
          have h2 : j % 2 ≠ 0 := fun e => by rw [e] at hc; cases hc
          omega
end Tr

/-- What lies under a number of the short memory: cells, of rows whose elements have so many cells, of a family of rows that may share a block, from this place of it on; a map. -/
inductive Ob where
  | cells (cs : List Value) (esz grp gs : Nat)
  | map (ks vs : List Value) (born : List Nat) (clock : Nat)
  | iter (s : ByteArray) (pos : Nat)

structure St where
  heap : Tr Ob
  mem : Tr (List Nat)     -- who is of a family
  next : Nat

def dep : Nat := 14
noncomputable def St.get (σ : St) (b : Nat) : Option Ob := Bool.rec (motive := fun _ => Option Ob) none (σ.heap.get b) (Nat.blt b σ.next)
noncomputable def St.aka (σ : St) (g : Nat) : List Nat := Option.rec (motive := fun _ => List Nat) [] (fun l => l) (σ.mem.get g)
noncomputable def St.kin (σ : St) (g : Nat) : List Nat := g :: σ.aka g
noncomputable def St.put (σ : St) (b : Nat) (o : Ob) : St := { σ with heap := σ.heap.set dep b (some o) }
noncomputable def St.kill (σ : St) (b : Nat) : St := { σ with heap := σ.heap.set dep b none }
/-- A new block, of a family g (its own: σ.next), from place gs of that on. -/
noncomputable def St.newIn (σ : St) (cs : List Value) (esz g gs : Nat) : St :=
  { heap := σ.heap.set dep σ.next (some (.cells cs esz g gs)),
    mem := Bool.rec (motive := fun _ => Tr (List Nat)) (σ.mem.set dep g (some (σ.next :: σ.aka g))) σ.mem (Nat.beq g σ.next), next := σ.next + 1 }
noncomputable def St.newOb (σ : St) (o : Ob) : St := { σ with heap := σ.heap.set dep σ.next (some o), next := σ.next + 1 }
def St.room (σ : St) : Bool := Nat.blt σ.next 16000

noncomputable def hits (p n : Nat) (o : Option Ob) : Bool := Option.rec (motive := fun _ => Bool) false (fun o => Ob.rec (motive := fun _ => Bool) (fun cs _ _ gs => !(Nat.ble (gs + cs.length) p || Nat.ble (p + n) gs)) (fun _ _ _ _ => false) (fun _ _ => false) o) o
/-- Those of the list, but b, that reach into what lies from p on, n cells, go. -/
noncomputable def St.hit (σ : St) (b p n : Nat) (l : List Nat) : St := List.rec (motive := fun _ => St → St) (fun σ => σ)
  (fun m _ ih σ => Bool.rec (motive := fun _ => St) (Bool.rec (motive := fun _ => St) (ih σ) (ih (σ.kill m)) (hits p n (σ.get m))) (ih σ) (Nat.beq m b)) l σ

noncomputable def setAt (cs : List Value) : Nat → List Value → List Value := List.rec (motive := fun _ => Nat → List Value → List Value) (fun o vs => Nat.rec (motive := fun _ => List Value) vs (fun _ _ => []) o)
  (fun c t ih o vs => Nat.rec (motive := fun _ => List Value) (vs ++ (c :: t).drop vs.length) (fun n _ => c :: ih n vs) o) cs
theorem setAt_zero (cs vs : List Value) : setAt cs 0 vs = vs ++ cs.drop vs.length := by
  cases cs with
  | nil => show vs = vs ++ List.drop vs.length []; simp
  | cons c t => rfl
theorem setAt_cons (c : Value) (cs : List Value) (n : Nat) (vs : List Value) : setAt (c :: cs) (n + 1) vs = c :: setAt cs n vs := rfl
theorem setAt_nil (n : Nat) (vs : List Value) : setAt [] (n + 1) vs = [] := rfl
theorem setAt_length : ∀ (cs : List Value) (o : Nat) (vs : List Value), o + vs.length ≤ cs.length → (setAt cs o vs).length = cs.length
  | cs, 0, vs, h => by rw [setAt_zero]; simp at h ⊢; omega
  | [], n + 1, vs, h => by simp at h
  | c :: cs, n + 1, vs, h => by rw [setAt_cons, List.length_cons, List.length_cons, setAt_length cs n vs (by simp at h; omega)]
theorem setAt_in : ∀ (cs : List Value) (o : Nat) (vs : List Value), o + vs.length ≤ cs.length → ∀ j, j < vs.length → (setAt cs o vs)[o + j]? = vs[j]?
  | cs, 0, vs, h, j, hj => by
    have : setAt cs 0 vs = vs ++ cs.drop vs.length := setAt_zero cs vs
    rw [this, Nat.zero_add, List.getElem?_append_left hj]
  | [], n + 1, vs, h, j, hj => by simp at h
  | c :: cs, n + 1, vs, h, j, hj => by
    rw [setAt_cons, show n + 1 + j = (n + j) + 1 by omega, List.getElem?_cons_succ]
    exact setAt_in cs n vs (by simp at h; omega) j hj
theorem setAt_out : ∀ (cs : List Value) (o : Nat) (vs : List Value), o + vs.length ≤ cs.length → ∀ j, (j < o ∨ o + vs.length ≤ j) → (setAt cs o vs)[j]? = cs[j]?
  | cs, 0, vs, h, j, hj => by
    have : setAt cs 0 vs = vs ++ cs.drop vs.length := setAt_zero cs vs
    rw [this, List.getElem?_append_right (by omega), List.getElem?_drop]
    congr 1; omega
  | [], n + 1, vs, h, j, hj => by simp at h
  | c :: cs, n + 1, vs, h, 0, hj => by simp [setAt_cons]
  | c :: cs, n + 1, vs, h, j + 1, hj => by
    rw [setAt_cons, List.getElem?_cons_succ, List.getElem?_cons_succ]
    exact setAt_out cs n vs (by simp at h; omega) j (by omega)
theorem setAt_mem : ∀ (cs : List Value) (o : Nat) (vs : List Value), ∀ v ∈ setAt cs o vs, v ∈ cs ∨ v ∈ vs
  | cs, 0, vs, v, h => by
    have : setAt cs 0 vs = vs ++ cs.drop vs.length := setAt_zero cs vs
    rw [this, List.mem_append] at h
    exact h.elim Or.inr fun h => Or.inl (List.mem_of_mem_drop h)
  | [], n + 1, vs, v, h => by rw [setAt_nil] at h; cases h
  | c :: cs, n + 1, vs, v, h => by
    rw [setAt_cons] at h
    simp only [List.mem_cons] at h ⊢
    exact h.elim (fun h => Or.inl (Or.inl h)) fun h => (setAt_mem cs n vs v h).imp Or.inr id

/-- THE SHORT MEMORY IS THE WORLD's. K: which elder blocks may be written. -/
structure Rel (K : Nat → Bool) (w0 : World) (σ : St) (E : Env) (w : World) : Prop where
  lim : σ.next ≤ 16000
  cell : ∀ b cs e g s, σ.get b = some (.cells cs e g s) → w.rangeAt (E b).blk (E b).off (cs.map (ren E))
  good : ∀ b cs e g s, σ.get b = some (.cells cs e g s) → ∀ v ∈ cs, ok σ.next E v ∧ v.oneCell' = true
  there : ∀ b cs e g s, σ.get b = some (.cells cs e g s) → w.there (E b).blk (E b).off (max cs.length ((E b).cap * e))
  kin : ∀ b cs e g s, σ.get b = some (.cells cs e g s) → b ∈ σ.kin g ∧ g < σ.next
  fam : ∀ b cs e g s b' cs' e' g' s', σ.get b = some (.cells cs e g s) → σ.get b' = some (.cells cs' e' g' s') →
    (E b).blk = (E b').blk → g = g' ∧ (E b).off + s' = (E b').off + s
  obj : ∀ b ks vs bo cl, σ.get b = some (.map ks vs bo cl) → ∃ es : Array MapEntry, w.heap[(E b).blk]? = some (.map es cl) ∧
    es.toList = (ks.zip (vs.zip bo)).map (fun x => { key := ren E x.1, val := ren E x.2.1, born := x.2.2 }) ∧ ks.length = vs.length ∧ vs.length = bo.length ∧
    (∀ v ∈ ks, ok σ.next E v) ∧ (∀ v ∈ vs, ok σ.next E v)
  itr : ∀ b s p, σ.get b = some (.iter s p) → w.heap[(E b).blk]? = some (.stringIter s p) ∧ (E b).off = 0
  apart : ∀ b o b' o', σ.get b = some o → σ.get b' = some o' → b ≠ b' → (E b).blk = (E b').blk →
    (∃ cs e g s, o = .cells cs e g s) ∧ (∃ cs e g s, o' = .cells cs e g s)
  own : ∀ b o, σ.get b = some o → (E b).blk < w.heap.size ∧ (K (E b).blk = true ∨ w0.heap.size ≤ (E b).blk)
  size : w0.heap.size ≤ w.heap.size
  frame : ∀ r, r < w0.heap.size → K r = false → w.heap[r]? = w0.heap[r]?
  fro : ∀ b cs e g s, σ.get b = some (.cells cs e g s) → ∃ c el fz, w.heap[(E b).blk]? = some (.cells c el fz) ∧ (fz.1 = fz.2 ∨ c.size ≤ fz.1)
  calm : w.os = w0.os ∧ w.tape = w0.tape ∧ w.output = w0.output

theorem dep_ok {k : Nat} (h : k ≤ 16000) : k + 1 < 2 ^ dep := by
  have : (2 : Nat) ^ dep = 16384 := by decide
  omega
theorem get_lt {σ : St} {b : Nat} (h : b < σ.next) : σ.get b = σ.heap.get b := by
  unfold St.get
  rw [Nat.blt_eq.mpr h]
theorem get_ge {σ : St} {b : Nat} (h : ¬ b < σ.next) : σ.get b = none := by
  unfold St.get
  cases hb : Nat.blt b σ.next with
  | true => exact absurd (Nat.blt_eq.mp hb) h
  | false => rfl
theorem get_dom {σ : St} {b : Nat} {o : Ob} (h : σ.get b = some o) : b < σ.next := by
  rcases Nat.lt_or_ge b σ.next with h1 | h1
  · exact h1
  · rw [get_ge (by omega)] at h; cases h
theorem get_put (σ : St) (b : Nat) (o : Ob) (hl : σ.next ≤ 16000) (h : b < σ.next) : (σ.put b o).get b = some o := by
  rw [get_lt (σ := σ.put b o) h]; exact Tr.get_set_same _ _ _ _ (dep_ok (by omega))
theorem get_put_ne (σ : St) (b x : Nat) (o : Ob) (hx : x ≠ b) : (σ.put b o).get x = σ.get x := by
  by_cases hd : x < σ.next
  · rw [get_lt (σ := σ.put b o) hd, get_lt hd]
    exact Tr.get_set_ne dep σ.heap b x (some o) hx
  · rw [get_ge (σ := σ.put b o) hd, get_ge hd]
theorem get_kill_ne (σ : St) (b x : Nat) (hx : x ≠ b) : (σ.kill b).get x = σ.get x := by
  by_cases hd : x < σ.next
  · rw [get_lt (σ := σ.kill b) hd, get_lt hd]
    exact Tr.get_set_ne dep σ.heap b x none hx
  · rw [get_ge (σ := σ.kill b) hd, get_ge hd]
theorem get_kill (σ : St) (b : Nat) (hl : σ.next ≤ 16000) : (σ.kill b).get b = none := by
  by_cases hd : b < σ.next
  · rw [get_lt (σ := σ.kill b) hd]; exact Tr.get_set_same _ _ _ _ (dep_ok (by omega))
  · exact get_ge (σ := σ.kill b) hd
theorem get_new (σ : St) (cs : List Value) (e g gs : Nat) (hl : σ.next ≤ 16000) : (σ.newIn cs e g gs).get σ.next = some (.cells cs e g gs) := by
  rw [get_lt (σ := σ.newIn cs e g gs) (by simp [St.newIn])]; exact Tr.get_set_same _ _ _ _ (dep_ok hl)
theorem get_new_ne (σ : St) (cs : List Value) (e g gs x : Nat) (hx : x ≠ σ.next) : (σ.newIn cs e g gs).get x = σ.get x := by
  by_cases hd : x < σ.next
  · rw [get_lt (σ := σ.newIn cs e g gs) (by simp [St.newIn]; omega), get_lt hd]
    exact Tr.get_set_ne dep σ.heap σ.next x (some (.cells cs e g gs)) hx
  · rw [get_ge (σ := σ.newIn cs e g gs) (by simp [St.newIn]; omega), get_ge hd]
theorem get_newOb (σ : St) (o : Ob) (hl : σ.next ≤ 16000) : (σ.newOb o).get σ.next = some o := by
  rw [get_lt (σ := σ.newOb o) (by simp [St.newOb])]; exact Tr.get_set_same _ _ _ _ (dep_ok hl)
theorem get_newOb_ne (σ : St) (o : Ob) (x : Nat) (hx : x ≠ σ.next) : (σ.newOb o).get x = σ.get x := by
  by_cases hd : x < σ.next
  · rw [get_lt (σ := σ.newOb o) (by simp [St.newOb]; omega), get_lt hd]
    exact Tr.get_set_ne dep σ.heap σ.next x (some o) hx
  · rw [get_ge (σ := σ.newOb o) (by simp [St.newOb]; omega), get_ge hd]
theorem kin_new (σ : St) (cs : List Value) (e g gs : Nat) (hl : σ.next ≤ 16000) (hg : g ≤ σ.next) : σ.next ∈ (σ.newIn cs e g gs).kin g := by
  unfold St.kin St.aka St.newIn
  cases h : Nat.beq g σ.next with
  | true => rw [Nat.eq_of_beq_eq_true h]; exact List.mem_cons_self
  | false =>
    simp only []
    rw [Tr.get_set_same _ _ _ _ (dep_ok (by omega))]
    exact List.mem_cons_of_mem _ List.mem_cons_self
theorem kin_new_sub (σ : St) (cs : List Value) (e g gs g' : Nat) (hl : σ.next ≤ 16000) (hg : g ≤ σ.next) (x : Nat) (hx : x ∈ σ.kin g') :
    x ∈ (σ.newIn cs e g gs).kin g' := by
  unfold St.kin at *
  rcases List.mem_cons.mp hx with rfl | hx
  · exact List.mem_cons_self
  · refine List.mem_cons_of_mem _ ?_
    unfold St.aka at *
    unfold St.newIn
    cases h : Nat.beq g σ.next with
    | true => exact hx
    | false =>
      simp only []
      by_cases e : g' = g
      · subst e
        rw [Tr.get_set_same _ _ _ _ (dep_ok (by omega))]
        exact List.mem_cons_of_mem _ hx
      · rw [Tr.get_set_ne _ _ _ _ _ e]; exact hx

theorem hit_nil (σ : St) (b p n : Nat) : σ.hit b p n [] = σ := rfl
theorem hit_cons (σ : St) (b p n m : Nat) (l : List Nat) : σ.hit b p n (m :: l) = (if m = b then σ.hit b p n l else if hits p n (σ.get m) = true then (σ.kill m).hit b p n l else σ.hit b p n l) := by
  show Bool.rec (motive := fun _ => St) (Bool.rec (motive := fun _ => St) (σ.hit b p n l) ((σ.kill m).hit b p n l) (hits p n (σ.get m))) (σ.hit b p n l) (Nat.beq m b) = _
  by_cases h : m = b
  · rw [if_pos h, show Nat.beq m b = true by rw [h]; simp]
  · rw [if_neg h, show Nat.beq m b = false by cases hb : Nat.beq m b with | true => exact absurd (Nat.eq_of_beq_eq_true hb) h | false => rfl]
    cases hh : hits p n (σ.get m) <;> simp
theorem hit_next (b p n : Nat) : ∀ (l : List Nat) (σ : St), (σ.hit b p n l).next = σ.next
  | [], _ => rfl
  | m :: l, σ => by
    rw [hit_cons]
    split
    · exact hit_next b p n l σ
    · split
      · exact (hit_next b p n l _).trans rfl
      · exact hit_next b p n l σ
theorem hit_mem (b p n : Nat) : ∀ (l : List Nat) (σ : St), (σ.hit b p n l).mem = σ.mem
  | [], _ => rfl
  | m :: l, σ => by
    rw [hit_cons]
    split
    · exact hit_mem b p n l σ
    · split
      · exact (hit_mem b p n l _).trans rfl
      · exact hit_mem b p n l σ
theorem hit_kin (b p n : Nat) (l : List Nat) (σ : St) (g : Nat) : (σ.hit b p n l).kin g = σ.kin g := by
  unfold St.kin St.aka; rw [hit_mem]
theorem kill_sub (σ : St) (hl : σ.next ≤ 16000) (m x : Nat) (o : Ob) (h : (σ.kill m).get x = some o) : σ.get x = some o := by
  by_cases e : x = m
  · subst e; rw [get_kill _ _ hl] at h; cases h
  · rwa [get_kill_ne σ m x e] at h
/-- What is there behind it was there. -/
theorem hit_sub (b p n : Nat) : ∀ (l : List Nat) (σ : St), σ.next ≤ 16000 → ∀ x o, (σ.hit b p n l).get x = some o → σ.get x = some o
  | [], _, _, _, _, h => h
  | m :: l, σ, hl, x, o, h => by
    rw [hit_cons] at h
    split at h
    · exact hit_sub b p n l σ hl x o h
    · split at h
      · exact kill_sub σ hl m x o (hit_sub b p n l (σ.kill m) hl x o h)
      · exact hit_sub b p n l σ hl x o h
theorem hit_spec (b p n : Nat) : ∀ (l : List Nat) (σ : St), σ.next ≤ 16000 → ∀ x cs e g s, x ∈ l → x ≠ b → (σ.hit b p n l).get x = some (.cells cs e g s) → s + cs.length ≤ p ∨ p + n ≤ s
  | [], _, _, _, _, _, _, _, hx, _, _ => by cases hx
  | m :: l, σ, hl, x, cs, e, g, s, hx, hne, h => by
    rw [hit_cons] at h
    by_cases hxl : x ∈ l
    · split at h
      · exact hit_spec b p n l σ hl x cs e g s hxl hne h
      · split at h
        · exact hit_spec b p n l (σ.kill m) hl x cs e g s hxl hne h
        · exact hit_spec b p n l σ hl x cs e g s hxl hne h
    · have hxm : x = m := by simpa [hxl] using hx
      subst hxm
      rw [if_neg hne] at h
      split at h
      · have := hit_sub b p n l (σ.kill x) hl x _ h
        rw [get_kill _ _ hl] at this; cases this
      · rename_i hh
        have := hit_sub b p n l σ hl x _ h
        rw [this] at hh
        have : hits p n (some (.cells cs e g s)) = !(Nat.ble (s + cs.length) p || Nat.ble (p + n) s) := rfl
        rw [this] at hh
        cases hq : (Nat.ble (s + cs.length) p || Nat.ble (p + n) s) with
        | false => rw [hq] at hh; exact absurd rfl hh
        | true => simpa using hq

/-- Of a long family the middle goes. -/
noncomputable def St.prune (σ : St) (g : Nat) : St := match σ.aka g with
  | [a, d, b] => { heap := σ.heap.set dep b none, mem := σ.mem.set dep g (some [a, d]), next := σ.next }
  | _ => σ
end Go.Ev
