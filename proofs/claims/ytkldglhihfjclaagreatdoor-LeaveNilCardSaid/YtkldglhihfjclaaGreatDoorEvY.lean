import Derived.Test.YtkldglhihfjclaaGreatDoorEvW
namespace Go.Ev
noncomputable section
variable {P : Program} {K : Nat → Bool} {w0 w : World} {σ : St} {E : Env} {ops : Array Oper}

/-! A region that draws its order, in which something new may come up ahead of calls that don't wait for it. -/
inductive Stp where
  | take (i : Nat)
  | run (i : Nat)
  | begin (gs : List Nat)
  | takeG (i : Nat)
  | runG (i : Nat) (flag : Bool)
  | stop

def cat (D : Array Bool) : List Nat → Array Bool
  | [] => D
  | g :: gs => cat (D.setIfInBounds g true) gs
theorem cat_snoc : ∀ (gs : List Nat) (D : Array Bool) (g : Nat), cat D (gs ++ [g]) = (cat D gs).setIfInBounds g true
  | [], _, _ => rfl
  | _ :: gs, D, g => cat_snoc gs _ g
theorem cat_set : ∀ (gs : List Nat) (D : Array Bool) (i : Nat), cat (D.setIfInBounds i true) gs = (cat D gs).setIfInBounds i true
  | [], _, _ => rfl
  | g :: gs, D, i => by
    show cat ((D.setIfInBounds i true).setIfInBounds g true) gs = (cat (D.setIfInBounds g true) gs).setIfInBounds i true
    rw [← cat_set gs]
    congr 1
    by_cases h : i = g
    · subst h; rfl
    · exact Array.setIfInBounds_comm _ _ h

abbrev rdy (ops : Array Oper) (D : Array Bool) : List Nat := Region.ready .any ops D
def okTake (P : Program) (ops : Array Oper) (D : Array Bool) (i : Nat) : Bool := isKind0 P ops i && (rdy ops D).contains i && Region.free .any ops D i && pendB ops D i
/-- Whatever of gs has come up: what 'ok' asks holds. -/
def allJ (D : Array Bool) (ok : Array Bool → List Nat → Bool) : List Nat → Bool
  | [] => ok D []
  | g :: gs => ok D (g :: gs) && allJ (D.setIfInBounds g true) ok gs
theorem allJ_spec {ok : Array Bool → List Nat → Bool} : ∀ {gs : List Nat} {D : Array Bool}, allJ D ok gs = true → ∀ j, j ≤ gs.length → ok (cat D (gs.take j)) (gs.drop j) = true
  | [], D, h, j, hj => by
    have : j = 0 := by simpa using hj
    subst this; exact h
  | g :: gs, D, h, 0, _ => by
    simp only [allJ, Bool.and_eq_true] at h; exact h.1
  | g :: gs, D, h, j + 1, hj => by
    simp only [allJ, Bool.and_eq_true] at h
    exact allJ_spec h.2 j (by simpa using hj)
def only (l : List Nat) (r : List Nat) : Bool := match l with
  | [] => false
  | _ => l.all fun x => r.contains x
def hd : List Nat → List Nat
  | [] => []
  | g :: _ => [g]

def isNew (ops : Array Oper) (i : Nat) : Bool := match ops[i]? with
  | some o => match o.op with
    | .alloc _ | .box _ _ | .buildSlice _ _ _ => true
    | _ => false
  | none => false
/-- What hangs on g, and on no call. -/
def groupOf (P : Program) (ops : Array Oper) (g : Nat) : List Nat :=
  let b := Region.before ops
  g :: (List.range ops.size).filter fun x => isKind0 P ops x && (b.getD x 0).testBit g && (List.range ops.size).all fun y => !(b.getD x 0).testBit y || Nat.beq y g || isKind0 P ops y

/-- fuel of the plan · fuel of the region · has the first of gs been ready? · gs (none: no group is open) -/
def planX (P : Program) (ops : Array Oper) : Nat → Nat → Bool → List Nat → Array Bool → Option (List Stp)
  | 0, _, _, _, _ => none
  | k + 1, F, seen, [], D => match rdy ops D with
    | [] => some []
    | r :: rs => match F with
      | 0 => none
      | F + 1 => match (r :: rs).find? (fun i => okTake P ops D i) with
        | some i => (planX P ops k F false [] (D.setIfInBounds i true)).map (.take i :: ·)
        | none => match rs with
          | [] => (planX P ops k F false [] (D.setIfInBounds r true)).map (.run r :: ·)
          | _ => match (r :: rs).find? (isNew ops) with
            | some g => match Nat.ble (groupOf P ops g).length (F + 1) with
              | true => (planX P ops k (F + 1 - (groupOf P ops g).length) false (groupOf P ops g) D).map (.begin (groupOf P ops g) :: ·)
              | false => none
            | none => none
  | k + 1, F, seen, g :: gs, D => match (rdy ops D).filter fun x => !(g :: gs).contains x with
    | [] => match allJ D (fun D' r => match r with
        | [] => true
        | x :: _ => only (rdy ops D') [x]) (g :: gs) with
      | true => (planX P ops k F false [] (cat D (g :: gs))).map (.stop :: ·)
      | false => none
    | r :: rs => match F with
      | 0 => none
      | F + 1 => match (r :: rs).find? (fun i => apartAll ops (g :: gs) i && allJ D (fun D' _ => okTake P ops D' i) (g :: gs)) with
        | some i => (planX P ops k F seen (g :: gs) (D.setIfInBounds i true)).map (.takeG i :: ·)
        | none => match rs with
          | [] => match apartAll ops (g :: gs) r with
            | true => match (rdy ops D).contains g with
              | true => match allJ D (fun D' l => only (rdy ops D') (r :: hd l)) (g :: gs) with
                | true => (planX P ops k F true (g :: gs) (D.setIfInBounds r true)).map (.runG r true :: ·)
                | false => none
              | false => match !seen && only (rdy ops D) [r] with
                | true => (planX P ops k F false (g :: gs) (D.setIfInBounds r true)).map (.runG r false :: ·)
                | false => none
            | false => none
          | _ => none

/-! What the group comes to. -/
def gVals (P : Program) (ops : Array Oper) : List Nat → List Value → St → Option (List Value)
  | [], _, _ => some []
  | g :: gs, tm, σ => match ops[g]? with
    | some o => match o.guard with
      | some _ => none
      | none => match evM P tm σ o with
        | some u => match plain u with
          | true => match gVals P ops gs (putT tm o.dst u) σ with
            | some us => some (u :: us)
            | none => none
          | false => none
        | none => none
    | none => none
def gAll (P : Program) (ops : Array Oper) (gs : List Nat) (tm : List Value) (σ : St) : Option (New × List Value) := match gs with
  | [] => none
  | g :: gs => match ops[g]?, σ.room with
    | some o, true => match newOf P tm o with
      | some n => match gVals P ops gs (putT tm o.dst (n.val σ.next)) (σ.newIn n.cs n.esz σ.next 0) with
        | some us => some (n, us)
        | none => none
      | none => none
    | _, _ => none
def putsT (ops : Array Oper) : List Nat → List Value → List Value → List Value
  | g :: gs, v :: vs, tm => putsT ops gs vs (putT tm (dstOf ops g) v)
  | _, _, tm => tm
def beqB : Bool → Bool → Bool
  | true, true => true
  | false, false => true
  | _, _ => false
def sameG (a b : Option (New × List Value)) : Bool := match a, b with
  | some (n, us), some (m, vs) => veqL n.cs m.cs && Nat.beq n.esz m.esz && beqB n.row m.row && Nat.beq n.len m.len && veqL us vs
  | _, _ => false
theorem sameG_eq {a b : Option (New × List Value)} (h : sameG a b = true) : a = b ∧ a.isSome = true := by
  unfold sameG at h
  split at h
  · rename_i n us m vs
    simp only [Bool.and_eq_true] at h
    obtain ⟨⟨⟨⟨h1, h2⟩, h3⟩, h4⟩, h5⟩ := h
    cases n; cases m
    have e1 := veqL_eq _ _ h1
    have e2 := Nat.eq_of_beq_eq_true h2
    have e4 := Nat.eq_of_beq_eq_true h4
    have e5 := veqL_eq _ _ h5
    simp only [] at e1 e2 e4 h3
    rename_i r1 l1 _ _ r2 l2
    have e3 : r1 = r2 := by cases r1 <;> cases r2 <;> simp [beqB] at h3 ⊢
    subst e1; subst e2; subst e3; subst e4; subst e5
    exact ⟨rfl, rfl⟩
  · cases h

abbrev OutX := Option (List Value × St × List Tag × Option (New × List Value))
def execX (P : Program) (call : CallT) (ops : Array Oper) : List Nat → List Nat → List Stp → List Value → St → OutX
  | _, rs, [], tm, σ => some (tm, σ, [(rs, σ)], none)
  | gs, rs, .take i :: l, tm, σ | gs, rs, .takeG i :: l, tm, σ => match ops[i]? with
    | some o => match wantedT ops tm o with
      | false => match execX P call ops gs rs l (putT tm o.dst undef) σ with
        | some (tm', σ', ss, gi) => match noneIs i ss with
          | true => some (tm', σ', ss, gi)
          | false => none
        | none => none
      | true => match evM P tm σ o with
        | some v => match execX P call ops gs rs l (putT tm o.dst v) σ with
          | some (tm', σ', ss, gi) => match sameIn P ops tm i o v ss with
            | true => some (tm', σ', ss, gi)
            | false => none
          | none => none
        | none => none
    | none => none
  | gs, rs, .run i :: l, tm, σ => match ops[i]? with
    | some o => match stepO P call ops tm σ o with
      | some (tm1, σ1) => match execX P call ops gs (i :: rs) l tm1 σ1 with
        | some (tm', σ', ss, gi) => some (tm', σ', (rs, σ) :: ss, gi)
        | none => none
      | none => none
    | none => none
  | _, rs, .begin gs :: l, tm, σ => execX P call ops gs rs l tm σ
  | gs, rs, .runG i flag :: l, tm, σ => match ops[i]? with
    | some o => match stepO P call ops tm σ o with
      | some (tm1, σ1) => match execX P call ops gs (i :: rs) l tm1 σ1 with
        | some (tm', σ', ss, gi) => match (match flag with
            | true => sameG gi (gAll P ops gs tm σ)
            | false => true) with
          | true => some (tm', σ', (rs, σ) :: ss, gi)
          | false => none
        | none => none
      | none => none
    | none => none
  | gs, rs, .stop :: l, tm, σ => match gAll P ops gs tm σ with
    | some (n, us) => match execX P call ops [] rs l (putsT ops gs (n.val σ.next :: us) tm) (σ.newIn n.cs n.esz σ.next 0) with
      | some (tm', σ', ss, _) => some (tm', σ', (rs, σ) :: ss, some (n, us))
      | none => none
    | none => none
end
end Go.Ev
