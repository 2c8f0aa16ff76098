import Derived.Test.YtkldglhihfjclaaGreatDoorEvK
import Derived.Laws.Strings
namespace Go.Ev
noncomputable section
variable {P : Program} {K : Nat → Bool} {w0 w : World} {σ : St} {E : Env}

/-! The same in two stages: what hangs on the code alone is reckoned once. -/
def nth (l : List Value) : Nat → Option Value := List.rec (motive := fun _ => Nat → Option Value) (fun _ => none) (fun v _ ih n => Nat.rec (motive := fun _ => Option Value) (some v) (fun m _ => ih m) n) l
theorem nth_eq : ∀ (l : List Value) (n : Nat), nth l n = l[n]?
  | [], n => by simp [nth]
  | v :: l, 0 => by show some v = _; simp
  | v :: l, n + 1 => by
    show nth l n = _
    rw [nth_eq l n]; simp
structure OG where
  g : List Value → Option Value
def cO : Operand → OG
  | .tmp t => ⟨fun tm => nth tm t⟩
  | .const v => match plain v with
    | true => ⟨fun _ => some v⟩
    | false => ⟨fun _ => none⟩
  | .func f => ⟨fun _ => some (.func (.func f) #[] #[])⟩
  | .global _ => ⟨fun _ => none⟩
theorem cO_eq (x : Operand) (tm : List Value) : (cO x).g tm = evalO tm x := by
  cases x with
  | tmp t => exact nth_eq tm t
  | const v => cases hp : plain v <;> simp [cO, evalO, hp]
  | func f => rfl
  | global g => rfl

structure VF where
  run : List Value → St → Option Value
def kNo : IntKind → Nat
  | .i8 => 0 | .i16 => 1 | .i32 => 2 | .i64 => 3 | .u8 => 4 | .u16 => 5 | .u32 => 6 | .u64 => 7
def sameK (a b : IntKind) : Bool := Nat.beq (kNo a) (kNo b)
theorem sameK_eq {a b : IntKind} (h : sameK a b = true) : a = b := by cases a <;> cases b <;> first | rfl | (simp [sameK, kNo] at h; done)
structure BF where
  f : IntKind → Int → Int → Option Value
structure SB where
  f : ByteArray → ByteArray → Option Value
def ltI : Int → Int → Bool
  | .ofNat a, .ofNat b => Nat.blt a b
  | .ofNat _, .negSucc _ => false
  | .negSucc _, .ofNat _ => true
  | .negSucc a, .negSucc b => Nat.blt b a
theorem ltI_eq (a b : Int) : ltI a b = decide (a < b) := by
  rw [Bool.eq_iff_iff]
  cases a <;> cases b <;> simp [ltI, Nat.blt_eq] <;> omega
def eqI : Int → Int → Bool
  | .ofNat a, .ofNat b => Nat.beq a b
  | .negSucc a, .negSucc b => Nat.beq a b
  | _, _ => false
theorem eqI_eq (a b : Int) : eqI a b = (a == b) := by
  rw [Bool.eq_iff_iff]
  cases a <;> cases b <;> simp [eqI] <;> omega
def cInt : BinOp → BF
  | .add => ⟨fun k a b => some (.int k (k.wrap (a + b)))⟩
  | .sub => ⟨fun k a b => some (.int k (k.wrap (a - b)))⟩
  | .mul => ⟨fun k a b => some (.int k (k.wrap (a * b)))⟩
  | .lss => ⟨fun _ a b => some (.bool (ltI a b))⟩
  | .gtr => ⟨fun _ a b => some (.bool (ltI b a))⟩
  | .leq => ⟨fun _ a b => some (.bool (!ltI b a))⟩
  | .geq => ⟨fun _ a b => some (.bool (!ltI a b))⟩
  | .eql => ⟨fun _ a b => some (.bool (eqI a b))⟩
  | .neq => ⟨fun _ a b => some (.bool (!eqI a b))⟩
  | .quo => ⟨fun k a b => match eqI b 0 with
    | true => none
    | false => some (.int k (k.wrap (a.tdiv b)))⟩
  | .rem => ⟨fun k a b => match eqI b 0 with
    | true => none
    | false => some (.int k (a.tmod b))⟩
  | _ => ⟨fun _ _ _ => none⟩
theorem cInt_spec {op : BinOp} {k : IntKind} {a b : Int} {v : Value} (h : (cInt op).f k a b = some v) (t : TypeId) (w : World) : (binOp op t (.int k a) (.int k b)).run P w = .ok v w := by
  cases op <;> simp only [cInt] at h <;> first | (cases h; done) | skip
  case add => cases h; simp [binOp, Op.intArith]
  case sub => cases h; simp [binOp, Op.intArith]
  case mul => cases h; simp [binOp, Op.intArith]
  case lss => cases h; simp [binOp, Op.intCmp, ltI_eq]
  case gtr => cases h; simp [binOp, Op.intCmp, ltI_eq]
  case leq =>
    cases h
    have : decide (a ≤ b) = !decide (b < a) := by by_cases h : b < a <;> simp [h] <;> omega
    simp [binOp, Op.intCmp, ltI_eq, this]
  case geq =>
    cases h
    have : decide (a ≥ b) = !decide (a < b) := by by_cases h : a < b <;> simp [h] <;> omega
    simp only [binOp, ne_eq, not_true_eq_false, if_false, Op.intCmp, ltI_eq, this, Sem.run_pure]
  case eql => cases h; simp [binOp, Op.intCmp, eqI_eq]
  case neq => cases h; simp [binOp, Op.intCmp, eqI_eq]; rfl
  case quo =>
    split at h
    · cases h
    · rename_i hb
      cases h
      rw [eqI_eq] at hb
      have : b ≠ 0 := by simpa using hb
      simp [binOp, Op.intDiv, this]
  case rem =>
    split at h
    · cases h
    · rename_i hb
      cases h
      rw [eqI_eq] at hb
      have : b ≠ 0 := by simpa using hb
      simp [binOp, Op.intDiv, this]

def ltL : List UInt8 → List UInt8 → Bool
  | _, [] => false
  | [], _ :: _ => true
  | a :: x, b :: y => Nat.blt a.toNat b.toNat || (Nat.beq a.toNat b.toNat && ltL x y)
theorem ltL_eq : ∀ (x y : List UInt8), ltL x y = Op.bytesLess x y
  | _, [] => by simp [ltL, Op.bytesLess]
  | [], _ :: _ => rfl
  | a :: x, b :: y => by
    simp only [ltL, Op.bytesLess, ltL_eq x y]
    congr 1
    · rw [Bool.eq_iff_iff]; simp [Nat.blt_eq, UInt8.lt_iff_toNat_lt]
    · congr 1
      rw [Bool.eq_iff_iff]
      simp only [beq_iff_eq]
      exact ⟨fun h => UInt8.toNat_inj.mp (Nat.eq_of_beq_eq_true h), fun h => by rw [h]; simp⟩
def eqL : List UInt8 → List UInt8 → Bool
  | [], [] => true
  | a :: x, b :: y => Nat.beq a.toNat b.toNat && eqL x y
  | _, _ => false
theorem eqL_eq : ∀ (x y : List UInt8), eqL x y = (x == y)
  | [], [] => rfl
  | [], _ :: _ => rfl
  | _ :: _, [] => rfl
  | a :: x, b :: y => by
    simp only [eqL, eqL_eq x y]
    rw [Bool.eq_iff_iff]
    simp only [Bool.and_eq_true, beq_iff_eq, List.cons.injEq]
    constructor
    · rintro ⟨h1, h2⟩; exact ⟨UInt8.toNat_inj.mp (Nat.eq_of_beq_eq_true h1), h2⟩
    · rintro ⟨h1, h2⟩; exact ⟨by rw [h1]; simp, h2⟩
def cStr : BinOp → SB
  | .add => ⟨fun a b => match Nat.ble (a.data.toList.length + b.data.toList.length) 1000000 with
    | true => some (.string ⟨(a.data.toList ++ b.data.toList).toArray⟩)
    | false => none⟩
  | .eql => ⟨fun a b => some (.bool (eqL a.data.toList b.data.toList))⟩
  | .neq => ⟨fun a b => some (.bool (!eqL a.data.toList b.data.toList))⟩
  | .lss => ⟨fun a b => some (.bool (ltL a.data.toList b.data.toList))⟩
  | .leq => ⟨fun a b => some (.bool (ltL a.data.toList b.data.toList || eqL a.data.toList b.data.toList))⟩
  | .gtr => ⟨fun a b => some (.bool (!(ltL a.data.toList b.data.toList || eqL a.data.toList b.data.toList)))⟩
  | .geq => ⟨fun a b => some (.bool (!ltL a.data.toList b.data.toList))⟩
  | _ => ⟨fun _ _ => none⟩
theorem cStr_spec {op : BinOp} {a b : ByteArray} {v : Value} (h : (cStr op).f a b = some v) (t : TypeId) (w : World) : (binOp op t (.string a) (.string b)).run P w = .ok v w ∧ plain v = true := by
  have hl := ByteArray.toList_eq a
  have hr := ByteArray.toList_eq b
  cases op <;> simp only [cStr] at h <;> first | (cases h; done) | skip
  case add =>
    split at h
    · rename_i hb
      cases h
      have hb := Nat.le_of_ble_eq_true hb
      have h1 : a.data.toList.length = a.size := by simp
      have h2 : b.data.toList.length = b.size := by simp
      have h3 : ¬ (((a.size + b.size : Nat) : Int) > IntKind.i64.max) := by
        have : IntKind.i64.max = 9223372036854775807 := by decide
        rw [this]; omega
      refine ⟨?_, rfl⟩
      unfold binOp
      simp only [Op.stringOp, if_neg h3, Sem.run_pure]
      congr 2
    · cases h
  all_goals
    cases h
    refine ⟨?_, rfl⟩
    unfold binOp
    simp [Op.stringOp, hl, hr, ltL_eq, eqL_eq]

/-! Small steps: each looks at one thing. -/
def thn {α β : Type} (o : Option α) (f : α → Option β) : Option β := match o with
  | some a => f a
  | none => none
theorem thn_some {α β : Type} {o : Option α} {f : α → Option β} {b : β} (h : thn o f = some b) : ∃ a, o = some a ∧ f a = some b := by
  cases o with
  | none => cases h
  | some a => exact ⟨a, rfl, h⟩
def toInt : Value → Option (IntKind × Int)
  | .int k n => some (k, n)
  | _ => none
def toStr : Value → Option ByteArray
  | .string s => some s
  | _ => none
def toBool : Value → Option Bool
  | .bool b => some b
  | _ => none
def toPtr : Value → Option Addr
  | .pointer a => a
  | _ => none
def toRow : Value → Option (Option Addr × Nat × Nat)
  | .slice a n c => some (a, n, c)
  | _ => none
def toTup : Value → Option (Array Value)
  | .tuple vs => some vs
  | _ => none
def toAgg : Value → Option (Array Value)
  | .agg vs => some vs
  | _ => none
def toFn : Value → Option (Fn × Array Value × Array Value)
  | .func f a b => some (f, a, b)
  | _ => none
def fnNo : Fn → Option Nat
  | .func f => some f
  | _ => none
theorem toInt_eq {v : Value} {x : IntKind × Int} (h : toInt v = some x) : v = .int x.1 x.2 := by cases v <;> simp [toInt] at h; subst h; rfl
theorem toStr_eq {v : Value} {x : ByteArray} (h : toStr v = some x) : v = .string x := by cases v <;> simp [toStr] at h; subst h; rfl
theorem toBool_eq {v : Value} {x : Bool} (h : toBool v = some x) : v = .bool x := by cases v <;> simp [toBool] at h; subst h; rfl
theorem toPtr_eq {v : Value} {x : Addr} (h : toPtr v = some x) : v = .pointer (some x) := by cases v <;> simp [toPtr] at h; subst h; rfl
theorem toRow_eq {v : Value} {x : Option Addr × Nat × Nat} (h : toRow v = some x) : v = .slice x.1 x.2.1 x.2.2 := by cases v <;> simp [toRow] at h; subst h; rfl
theorem toTup_eq {v : Value} {x : Array Value} (h : toTup v = some x) : v = .tuple x := by cases v <;> simp [toTup] at h; subst h; rfl
theorem toAgg_eq {v : Value} {x : Array Value} (h : toAgg v = some x) : v = .agg x := by cases v <;> simp [toAgg] at h; subst h; rfl
theorem toFn_eq {v : Value} {x : Fn × Array Value × Array Value} (h : toFn v = some x) : v = .func x.1 x.2.1 x.2.2 := by cases v <;> simp [toFn] at h; subst h; rfl
theorem fnNo_eq {f : Fn} {n : Nat} (h : fnNo f = some n) : f = .func n := by cases f <;> simp [fnNo] at h; subst h; rfl
def orElse {α : Type} (o : Option α) (d : Unit → Option α) : Option α := match o with
  | some a => some a
  | none => d ()
theorem orElse_some {α : Type} {o : Option α} {d : Unit → Option α} {a : α} (h : orElse o d = some a) : o = some a ∨ d () = some a := by
  cases o with
  | none => exact Or.inr h
  | some b => exact Or.inl h

def binI (f : BF) (x y : IntKind × Int) : Option Value := match sameK x.1 y.1 with
  | true => f.f x.1 x.2 y.2
  | false => none
def binV (f : BF) (s : SB) (x y : Value) : Option Value :=
  orElse (thn (toInt x) fun a => thn (toInt y) fun b => binI f a b) fun _ => thn (toStr x) fun a => thn (toStr y) fun b => s.f a b
def ofNatI : Int → Option Nat
  | .ofNat n => some n
  | .negSucc _ => none
theorem ofNatI_eq {i : Int} {n : Nat} (h : ofNatI i = some n) : i = (n : Int) := by cases i <;> simp [ofNatI] at h; subst h; rfl
def below (n m : Nat) : Option Unit := match Nat.blt n m with
  | true => some ()
  | false => none
theorem below_lt {n m : Nat} {u : Unit} (h : below n m = some u) : n < m := by
  unfold below at h
  split at h
  · rename_i hb; exact Nat.blt_eq.mp hb
  · cases h
def ptrAt (b o : Nat) : Value := .pointer (some ⟨b, o, none⟩)
def idxRow (s : Nat) (v u : Value) : Option Value := thn (toRow v) fun r => thn r.1 fun a => thn (toInt u) fun i => thn (ofNatI i.2) fun n => thn (below n r.2.1) fun _ => some (ptrAt a.block (a.off + n * s))
def idxArr (len s : Nat) (v u : Value) : Option Value := thn (toPtr v) fun a => thn (toInt u) fun i => thn (ofNatI i.2) fun n => thn (below n len) fun _ => some (ptrAt a.block (a.off + n * s))
def cellsOf : Ob → Option (List Value)
  | .cells cs _ _ _ => some cs
  | _ => none
theorem cellsOf_eq {o : Ob} {cs : List Value} (h : cellsOf o = some cs) : ∃ e g s, o = .cells cs e g s := by cases o <;> simp [cellsOf] at h; subst h; exact ⟨_, _, _, rfl⟩
def ldOne (σ : St) (v : Value) : Option Value := thn (toPtr v) fun a => thn (σ.get a.block) fun o => thn (cellsOf o) fun cs => nth cs a.off
def exact (n : Nat) (l : List Value) : Option Value := match Nat.beq l.length n with
  | true => some (.agg l.toArray)
  | false => none
def ldRow (n : Nat) (σ : St) (v : Value) : Option Value := thn (toPtr v) fun a => thn (σ.get a.block) fun o => thn (cellsOf o) fun cs => exact n ((cs.drop a.off).take n)
def fldAt (off : Nat) (v : Value) : Option Value := thn (toPtr v) fun a => some (ptrAt a.block (a.off + off))
def fldOff (P : Program) (t : TypeId) (f : Nat) : Option Nat := match fieldsT P t with
  | some fs => match fs[f]? with
    | some fd => match szT P fd.type with
      | some (_ + 1) => some fd.offset
      | _ => none
    | none => none
  | none => none
def fldOne (P : Program) (t : TypeId) (f : Nat) : Option Nat := match fieldsT P t with
  | some fs => match fs[f]? with
    | some fd => match rowT P fd.type with
      | some false => some fd.offset
      | _ => none
    | none => none
  | none => none
def idxT (P : Program) (t : TypeId) : Option (Option Nat × Nat) := match P.underlying t with
  | some (.slice e) => (szT P e).map fun s => (none, s)
  | some (.array len e) => (szT P e).map fun s => (some len, s)
  | _ => none
def intT (P : Program) (src dst : TypeId) : Option IntKind := match P.underlying src with
  | some _ => match P.underlying dst with
    | some (.int k) => some k
    | _ => none
  | none => none

def cOp (P : Program) (o : Oper) : VF := match o.op with
  | .move x | .assign x => ⟨fun tm _ => (cO x).g tm⟩
  | .pick c a b => ⟨fun tm _ => thn ((cO c).g tm) fun v => thn (toBool v) fun t => match t with
    | true => (cO a).g tm
    | false => (cO b).g tm⟩
  | .binOp op _ x y _ => ⟨fun tm σ => orElse (thn ((cO x).g tm) fun a => thn ((cO y).g tm) fun b => binV (cInt op) (cStr op) a b) fun _ => evM0 P tm σ o⟩
  | .load t x => match rowT P t, szT P t with
    | some false, _ => ⟨fun tm σ => thn ((cO x).g tm) fun v => ldOne σ v⟩
    | some true, some n => ⟨fun tm σ => thn ((cO x).g tm) fun v => ldRow n σ v⟩
    | _, _ => ⟨fun _ _ => none⟩
  | .fieldAddr t x f => match fldOff P t f with
    | some off => ⟨fun tm _ => thn ((cO x).g tm) fun v => fldAt off v⟩
    | none => ⟨fun _ _ => none⟩
  | .indexAddr t x i => match idxT P t with
    | some (none, s) => ⟨fun tm _ => thn ((cO x).g tm) fun v => thn ((cO i).g tm) fun u => idxRow s v u⟩
    | some (some len, s) => ⟨fun tm _ => thn ((cO x).g tm) fun v => thn ((cO i).g tm) fun u => idxArr len s v u⟩
    | none => ⟨fun _ _ => none⟩
  | .convert src dst x => match intT P src dst with
    | some k => ⟨fun tm σ => orElse (thn ((cO x).g tm) fun v => thn (toInt v) fun n => some (.int k (k.wrap n.2))) fun _ => evM0 P tm σ o⟩
    | none => ⟨fun tm σ => evM0 P tm σ o⟩
  | .extract x i => ⟨fun tm _ => thn ((cO x).g tm) fun v => thn (toTup v) fun vs => nth vs.toList i⟩
  | .field t x f => match fldOne P t f with
    | some off => ⟨fun tm _ => thn ((cO x).g tm) fun v => thn (toAgg v) fun cs => nth cs.toList off⟩
    | none => ⟨fun tm _ => thn ((cO x).g tm) fun v => aField P t v f⟩
  | .nilCheck x => ⟨fun tm _ => thn ((cO x).g tm) fun v => orElse (thn (toPtr v) fun _ => some v) fun _ => thn (toFn v) fun f => thn (fnNo f.1) fun _ => some v⟩
  | .unOp .not _ x => ⟨fun tm _ => thn ((cO x).g tm) fun v => thn (toBool v) fun b => some (.bool (not b))⟩
  | _ => ⟨fun tm σ => evM0 P tm σ o⟩
def evM (P : Program) (tm : List Value) (σ : St) (o : Oper) : Option Value := (cOp P o).run tm σ

theorem plain_int {v : Value} {op : BinOp} {k : IntKind} {a b : Int} (h : (cInt op).f k a b = some v) : plain v = true := by
  cases op <;> simp only [cInt] at h <;> first | (cases h; done) | (cases h; rfl) | (split at h <;> first | (cases h; done) | (cases h; rfl))
theorem eqGuard_ok (op : BinOp) (t : TypeId) (x y : Operand) {a b : Value} (ha : a.oneCell' = true) (hn : a ≠ .nilIface) (w : World) : (eqGuard op t x y a b).run P w = .ok () w := by
  unfold eqGuard
  cases op <;> try rfl
  all_goals (cases a <;> first | rfl | (simp [Value.oneCell'] at ha; done) | exact absurd rfl hn)

theorem evM_sound {tm : List Value} (hr : Rel K w0 σ E w) (ht : ∀ v ∈ tm, ok σ.next E v) {o : Oper} {v : Value} (h : evM P tm σ o = some v) : Yield P σ.next E w (act E tm) o v := by
  have old : evM0 P tm σ o = some v → Yield P σ.next E w (act E tm) o v := fun h => evM0_sound hr ht h
  have pure : evP P tm o = some v → Yield P σ.next E w (act E tm) o v := fun h => ⟨(evP_sound ht h).1 w, (evP_sound ht h).2⟩
  unfold evM cOp at h
  split at h
  · rename_i x hop
    simp only [cO_eq] at h
    exact pure (by simp [evP, hop, h])
  · rename_i x hop
    simp only [cO_eq] at h
    exact pure (by simp [evP, hop, h])
  · rename_i c a b hop
    simp only [cO_eq] at h
    obtain ⟨cv, h1, h2⟩ := thn_some h
    obtain ⟨t, h3, h4⟩ := thn_some h2
    have h5 := toBool_eq h3
    subst h5
    exact pure (by simp only [evP, hop, h1]; cases t <;> exact h4)
  · rename_i op t x y ty hop
    simp only [cO_eq] at h
    rcases orElse_some h with g1 | g1
    · obtain ⟨a, hx, q2⟩ := thn_some g1
      obtain ⟨b, hy, q3⟩ := thn_some q2
      have h1 := eval_sound ht hx
      have h2 := eval_sound ht hy
      unfold binV at q3
      rcases orElse_some q3 with g4 | g4
      · obtain ⟨⟨k, n⟩, e1, q5⟩ := thn_some g4
        obtain ⟨⟨j, m⟩, e2, q6⟩ := thn_some q5
        have e1 := toInt_eq e1
        have e2 := toInt_eq e2
        subst e1; subst e2
        unfold binI at q6
        split at q6
        · rename_i hk
          have hk := sameK_eq hk
          simp only [] at hk q6
          subst hk
          have hp := plain_int q6
          refine ⟨?_, ok_plain _ _ _ hp⟩
          rw [ren_plain E _ hp]
          simp only [ren] at h1 h2
          simp only [execOp, hop, h1.1, h2.1, Sem.run_bind, eqGuard_ok (a := .int k n) op t x y rfl (by simp), Result.andThen_ok, cInt_spec q6 t w, Sem.run_pure]
        · cases q6
      · obtain ⟨s, e1, q7⟩ := thn_some g4
        obtain ⟨r, e2, q8⟩ := thn_some q7
        have e1 := toStr_eq e1
        have e2 := toStr_eq e2
        subst e1; subst e2
        obtain ⟨h3, hp⟩ := cStr_spec (P := P) q8 t w
        refine ⟨?_, ok_plain _ _ _ hp⟩
        rw [ren_plain E _ hp]
        simp only [ren] at h1 h2
        simp only [execOp, hop, h1.1, h2.1, Sem.run_bind, eqGuard_ok (a := .string s) op t x y rfl (by simp), Result.andThen_ok, h3, Sem.run_pure]
    · exact old g1
  · rename_i t x hop
    refine old ?_
    simp only [evM0, hop]
    split at h
    · rename_i hrow
      simp only [cO_eq] at h
      obtain ⟨u, h1, q9⟩ := thn_some h
      obtain ⟨a, h2, q10⟩ := thn_some q9
      obtain ⟨ob, h3, q11⟩ := thn_some q10
      obtain ⟨cs, h4, q12⟩ := thn_some q11
      have h2 := toPtr_eq h2
      subst h2
      obtain ⟨e, g, s, rfl⟩ := cellsOf_eq h4
      rw [nth_eq] at q12
      simp only [h1, aLoad, h3, hrow, q12]
    · rename_i n hrow hsz
      simp only [cO_eq] at h
      obtain ⟨u, h1, q13⟩ := thn_some h
      obtain ⟨a, h2, q14⟩ := thn_some q13
      obtain ⟨ob, h3, q15⟩ := thn_some q14
      obtain ⟨cs, h4, q16⟩ := thn_some q15
      have h2 := toPtr_eq h2
      subst h2
      obtain ⟨e, g, s, rfl⟩ := cellsOf_eq h4
      simp only [h1, aLoad, h3, hrow, hsz]
      exact q16
    · cases h
  · rename_i t x f hop
    refine pure ?_
    simp only [evP, hop]
    split at h
    · rename_i off hoff
      simp only [cO_eq] at h
      obtain ⟨u, h1, q17⟩ := thn_some h
      obtain ⟨a, h2, q18⟩ := thn_some q17
      have h2 := toPtr_eq h2
      subst h2
      rw [h1]
      unfold fldOff at hoff
      split at hoff
      · rename_i fs hfs
        split at hoff
        · rename_i fd hfd
          split at hoff
          · rename_i k hk
            cases hoff
            simp only [aFieldAddr, hfs, hfd, hk]
            exact q18
          · cases hoff
        · cases hoff
      · cases hoff
    · cases h
  · rename_i t x i hop
    refine pure ?_
    simp only [evP, hop]
    split at h
    · rename_i s hidx
      simp only [cO_eq] at h
      obtain ⟨u, h1, q19⟩ := thn_some h
      obtain ⟨z, h2, q20⟩ := thn_some q19
      obtain ⟨⟨oa, n, c⟩, h3, q21⟩ := thn_some q20
      obtain ⟨a, h4, q22⟩ := thn_some q21
      obtain ⟨⟨k, iv⟩, h5, q23⟩ := thn_some q22
      obtain ⟨m, h6, q24⟩ := thn_some q23
      obtain ⟨un, h7, q25⟩ := thn_some q24
      have h3 := toRow_eq h3
      have h5 := toInt_eq h5
      have h6 := ofNatI_eq h6
      have h7 := below_lt h7
      simp only [] at h3 h4 h5 h6 h7
      subst h3; subst h5; subst h4; subst h6
      rw [h1, h2]
      unfold idxT at hidx
      split at hidx
      · rename_i e hu
        obtain ⟨s', hs', hs2⟩ := Option.map_eq_some_iff.mp hidx
        cases hs2
        have hd : decide (0 ≤ (m : Int) ∧ (m : Int) < (n : Int)) = true := by simp; omega
        simp only [aIndexAddr, hu, hs', hd]
        exact q25
      · rename_i len e hu
        obtain ⟨s', hs', hs2⟩ := Option.map_eq_some_iff.mp hidx
        cases hs2
      · cases hidx
    · rename_i len s hidx
      simp only [cO_eq] at h
      obtain ⟨u, h1, q26⟩ := thn_some h
      obtain ⟨z, h2, q27⟩ := thn_some q26
      obtain ⟨a, h3, q28⟩ := thn_some q27
      obtain ⟨⟨k, iv⟩, h5, q29⟩ := thn_some q28
      obtain ⟨m, h6, q30⟩ := thn_some q29
      obtain ⟨un, h7, q31⟩ := thn_some q30
      have h3 := toPtr_eq h3
      have h5 := toInt_eq h5
      have h6 := ofNatI_eq h6
      have h7 := below_lt h7
      simp only [] at h5 h6 h7
      subst h3; subst h5; subst h6
      rw [h1, h2]
      unfold idxT at hidx
      split at hidx
      · rename_i e hu
        obtain ⟨s', hs', hs2⟩ := Option.map_eq_some_iff.mp hidx
        cases hs2
      · rename_i len' e hu
        obtain ⟨s', hs', hs2⟩ := Option.map_eq_some_iff.mp hidx
        cases hs2
        have hd : decide (0 ≤ (m : Int) ∧ (m : Int) < (len : Int)) = true := by simp; omega
        simp only [aIndexAddr, hu, hs', hd]
        exact q31
      · cases hidx
    · cases h
  · rename_i src dst x hop
    split at h
    · rename_i k hk
      simp only [cO_eq] at h
      rcases orElse_some h with g32 | g32
      · obtain ⟨u, h1, q33⟩ := thn_some g32
        obtain ⟨⟨j, n⟩, h2, q34⟩ := thn_some q33
        have h2 := toInt_eq h2
        subst h2
        cases q34
        unfold intT at hk
        split at hk
        · rename_i u hu
          split at hk
          · rename_i k' hk'
            cases hk
            have h3 := eval_sound ht h1
            simp only [ren] at h3
            refine ⟨?_, by simp [ok]⟩
            simp only [execOp, hop, h3.1, Sem.run_bind, convert, run_underlying hu, run_underlying hk', Result.andThen_ok, ren]
            cases u <;> simp [Conv.intToInt]
          · cases hk
        · cases hk
      · exact old g32
    · exact old h
  · rename_i x i hop
    simp only [cO_eq] at h
    obtain ⟨u, h1, q35⟩ := thn_some h
    obtain ⟨vs, h2, q36⟩ := thn_some q35
    have h2 := toTup_eq h2
    subst h2
    rw [nth_eq] at q36
    exact pure (by simp only [evP, hop, h1]; exact q36)
  · rename_i t x f hop
    split at h
    · rename_i off hoff
      simp only [cO_eq] at h
      obtain ⟨u, h1, q37⟩ := thn_some h
      obtain ⟨vs, h2, q38⟩ := thn_some q37
      have h2 := toAgg_eq h2
      subst h2
      rw [nth_eq] at q38
      refine pure ?_
      simp only [evP, hop, h1]
      unfold fldOne at hoff
      split at hoff
      · rename_i fs hfs
        split at hoff
        · rename_i fd hfd
          split at hoff
          · rename_i hrow
            cases hoff
            simp only [aField, hfs, hfd, aPart, hrow]
            exact q38
          · cases hoff
        · cases hoff
      · cases hoff
    · simp only [cO_eq] at h
      obtain ⟨u, h1, q39⟩ := thn_some h
      exact pure (by simp only [evP, hop, h1]; exact q39)
  · rename_i x hop
    simp only [cO_eq] at h
    obtain ⟨u, h1, q40⟩ := thn_some h
    rcases orElse_some q40 with g41 | g41
    · obtain ⟨a, h2, q42⟩ := thn_some g41
      have h2 := toPtr_eq h2
      cases q42
      subst h2
      exact pure (by simp only [evP, hop, h1])
    · obtain ⟨⟨f, a, b⟩, h2, q43⟩ := thn_some g41
      obtain ⟨n, h3, q44⟩ := thn_some q43
      have h2 := toFn_eq h2
      have h3 := fnNo_eq h3
      simp only [] at h2 h3
      cases q44
      subst h2; subst h3
      exact pure (by simp only [evP, hop, h1])
  · rename_i t x hop
    simp only [cO_eq] at h
    obtain ⟨u, h1, q45⟩ := thn_some h
    obtain ⟨b, h2, q46⟩ := thn_some q45
    have h2 := toBool_eq h2
    subst h2
    cases q46
    have h3 := eval_sound ht h1
    simp only [ren] at h3
    refine ⟨?_, by simp [ok]⟩
    simp [execOp, hop, h3.1, Op.unary, ren]
  · exact old h
end
end Go.Ev
