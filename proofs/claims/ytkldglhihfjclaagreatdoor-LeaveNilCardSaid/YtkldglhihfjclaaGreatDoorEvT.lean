import Derived.Test.YtkldglhihfjclaaGreatDoorEvS
import Derived.OrdersHeld
import Derived.CheckFast
namespace Go.Ev
noncomputable section
variable {P : Program} {K : Nat → Bool} {w0 w : World} {σ : St} {E : Env}

/-! Are two values the same? -/
def beqL : List UInt8 → List UInt8 → Bool
  | [], [] => true
  | a :: l, b :: r => Nat.beq a.toNat b.toNat && beqL l r
  | _, _ => false
theorem beqL_eq : ∀ {a b : List UInt8}, beqL a b = true → a = b
  | [], [], _ => rfl
  | a :: l, b :: r, h => by
    simp only [beqL, Bool.and_eq_true] at h
    have h1 := Nat.eq_of_beq_eq_true h.1
    rw [beqL_eq h.2, UInt8.toNat_inj.mp h1]
def beqI : Int → Int → Bool
  | .ofNat a, .ofNat b => Nat.beq a b
  | .negSucc a, .negSucc b => Nat.beq a b
  | _, _ => false
theorem beqI_eq : ∀ {a b : Int}, beqI a b = true → a = b
  | .ofNat a, .ofNat b, h => by rw [Nat.eq_of_beq_eq_true h]
  | .negSucc a, .negSucc b, h => by rw [Nat.eq_of_beq_eq_true h]
  | .ofNat _, .negSucc _, h => by cases h
  | .negSucc _, .ofNat _, h => by cases h
def beqO : Option Nat → Option Nat → Bool
  | none, none => true
  | some a, some b => Nat.beq a b
  | _, _ => false
theorem beqO_eq : ∀ {a b : Option Nat}, beqO a b = true → a = b
  | none, none, _ => rfl
  | some a, some b, h => by rw [Nat.eq_of_beq_eq_true h]
def beqA (a b : Addr) : Bool := Nat.beq a.block b.block && Nat.beq a.off b.off && beqO a.spot b.spot
theorem beqA_eq {a b : Addr} (h : beqA a b = true) : a = b := by
  simp only [beqA, Bool.and_eq_true] at h
  obtain ⟨⟨h1, h2⟩, h3⟩ := h
  cases a; cases b
  simp only [Addr.mk.injEq]
  exact ⟨Nat.eq_of_beq_eq_true h1, Nat.eq_of_beq_eq_true h2, beqO_eq h3⟩
def beqK : IntKind → IntKind → Bool := fun a b => decide (a = b)
mutual
def veq : Value → Value → Bool
  | .bool a, .bool b => a == b
  | .int k a, .int j b => beqK k j && beqI a b
  | .string a, .string b => beqL a.data.toList b.data.toList
  | .pointer none, .pointer none => true
  | .pointer (some a), .pointer (some b) => beqA a b
  | .slice none n c, .slice none m d => Nat.beq n m && Nat.beq c d
  | .slice (some a) n c, .slice (some b) m d => beqA a b && Nat.beq n m && Nat.beq c d
  | .map a, .map b => beqO a b
  | .func (.func f) a b, .func (.func g) c d => Nat.beq f g && veqA a c && veqA b d
  | .nilFunc, .nilFunc => true
  | .nilIface, .nilIface => true
  | .agg a, .agg b => veqA a b
  | .tuple a, .tuple b => veqA a b
  | _, _ => false
def veqA : Array Value → Array Value → Bool
  | ⟨a⟩, ⟨b⟩ => veqL a b
def veqL : List Value → List Value → Bool
  | [], [] => true
  | a :: l, b :: r => veq a b && veqL l r
  | _, _ => false
end
mutual
theorem veq_eq : ∀ (a b : Value), veq a b = true → a = b
  | .bool a, y, h => by cases y <;> simp [veq] at h; rw [h]
  | .int k a, y, h => by
    cases y <;> simp [veq] at h
    rw [beqI_eq h.2, of_decide_eq_true h.1]
  | .string a, y, h => by
    cases y <;> simp [veq] at h
    have := beqL_eq h
    congr 1
    rename_i b
    cases a; cases b
    simp at this
    simpa using this
  | .pointer none, y, h => by
    cases y <;> try (simp [veq] at h; done)
    rename_i b; cases b <;> simp [veq] at h ⊢
  | .pointer (some a), y, h => by
    cases y <;> try (simp [veq] at h; done)
    rename_i b; cases b <;> simp [veq] at h
    rw [beqA_eq h]
  | .slice none n c, y, h => by
    cases y <;> try (simp [veq] at h; done)
    rename_i b m d; cases b <;> simp [veq] at h
    rw [h.1, h.2]
  | .slice (some a) n c, y, h => by
    cases y <;> try (simp [veq] at h; done)
    rename_i b m d; cases b <;> simp [veq] at h
    rw [h.1.2, h.2, beqA_eq h.1.1]
  | .map a, y, h => by
    cases y <;> simp [veq] at h
    rw [beqO_eq h]
  | .func (.func f) a b, y, h => by
    cases y <;> try (simp [veq] at h; done)
    rename_i g c d
    cases g <;> simp [veq] at h
    rw [h.1.1, veqA_eq a c h.1.2, veqA_eq b d h.2]
  | .func (.method _) _ _, y, h => by cases y <;> simp [veq] at h
  | .func (.methodOf _ _) _ _, y, h => by cases y <;> simp [veq] at h
  | .func (.via _ _ _ _) _ _, y, h => by cases y <;> simp [veq] at h
  | .func (.yield _) _ _, y, h => by cases y <;> simp [veq] at h
  | .nilFunc, y, h => by cases y <;> simp [veq] at h ⊢
  | .nilIface, y, h => by cases y <;> simp [veq] at h ⊢
  | .agg a, y, h => by
    cases y <;> simp [veq] at h
    rename_i b; rw [veqA_eq a b h]
  | .tuple a, y, h => by
    cases y <;> simp [veq] at h
    rename_i b; rw [veqA_eq a b h]
  | .float _ _, y, h => by cases y <;> simp [veq] at h
  | .complex _ _ _, y, h => by cases y <;> simp [veq] at h
  | .chan _, y, h => by cases y <;> simp [veq] at h
  | .iface _ _, y, h => by cases y <;> simp [veq] at h
theorem veqA_eq : ∀ (a b : Array Value), veqA a b = true → a = b
  | ⟨a⟩, ⟨b⟩, h => by simp only [veqA] at h; rw [veqL_eq a b h]
theorem veqL_eq : ∀ (a b : List Value), veqL a b = true → a = b
  | [], y, h => by cases y <;> simp [veqL] at h ⊢
  | a :: l, y, h => by
    cases y <;> simp [veqL] at h
    rename_i b r; rw [veq_eq a b h.1, veqL_eq l r h.2]
end

def isKind0 (P : Program) (ops : Array Oper) (i : Nat) : Bool := match ops[i]? with
  | some o => Nat.beq (kindOf P o.op) 0
  | none => false
/-! Orders: what must hold behind an operation hangs on what has come up. -/
theorem one_bit (look : Nat → Nat) (i : Nat) : ∀ (l : List Edge) (s : Nat), (l.foldl (fun s e => if Region.binds .any e then s ||| 2 ^ e.on ||| look e.on else s) s).testBit i = true →
    s.testBit i = true ∨ ∃ e ∈ l, Region.binds .any e = true ∧ (e.on = i ∨ (look e.on).testBit i = true)
  | [], s, h => Or.inl h
  | e :: l, s, h => by
    rw [List.foldl_cons] at h
    rcases one_bit look i l _ h with h1 | ⟨e', he', h1⟩
    · split at h1
      · rename_i hb
        simp only [Nat.testBit_or, Bool.or_eq_true, Nat.testBit_two_pow, decide_eq_true_eq] at h1
        rcases h1 with (h1 | h1) | h1
        · exact Or.inl h1
        · exact Or.inr ⟨e, List.mem_cons_self, hb, Or.inl h1⟩
        · exact Or.inr ⟨e, List.mem_cons_self, hb, Or.inr h1⟩
      · exact Or.inl h1
    · exact Or.inr ⟨e', List.mem_cons_of_mem _ he', h1⟩
theorem before_bit : ∀ (l pre : List Oper) (acc : Array Nat), acc.size = pre.length →
    (∀ d i, (acc.getD d 0).testBit i = true → ∃ o, pre[d]? = some o ∧ ∃ e ∈ o.after, Region.binds .any e = true ∧ (e.on = i ∨ (acc.getD e.on 0).testBit i = true)) →
    ∀ d i, ((l.foldl (fun acc o => acc.push (CheckFast.one (fun i => acc.getD i 0) o)) acc).getD d 0).testBit i = true →
      ∃ o, (pre ++ l)[d]? = some o ∧ ∃ e ∈ o.after, Region.binds .any e = true ∧ (e.on = i ∨ ((l.foldl (fun acc o => acc.push (CheckFast.one (fun i => acc.getD i 0) o)) acc).getD e.on 0).testBit i = true)
  | [], pre, acc, hs, h => by simpa using h
  | x :: l, pre, acc, hs, h => by
    have key := before_bit l (pre ++ [x]) (acc.push (CheckFast.one (fun i => acc.getD i 0) x)) (by simp [hs]) (by
      intro d i hb
      have up : ∀ k, (acc.getD k 0).testBit i = true → ((acc.push (CheckFast.one (fun i => acc.getD i 0) x)).getD k 0).testBit i = true := by
        intro k hk
        rcases Nat.lt_or_ge k acc.size with h1 | h1
        · simp [Array.getElem_push_lt, h1, Nat.lt_succ_of_lt h1] at hk ⊢; exact hk
        · simp [Array.getElem?_eq_none h1] at hk
      rcases Nat.lt_trichotomy d acc.size with h1 | h1 | h1
      · have h2 : (acc.getD d 0).testBit i = true := by
          simp [Array.getElem_push_lt, h1, Nat.lt_succ_of_lt h1] at hb ⊢; exact hb
        obtain ⟨o, ho, e, he, h3, h4⟩ := h d i h2
        refine ⟨o, by rw [List.getElem?_append_left (by omega)]; exact ho, e, he, h3, h4.imp id (up _)⟩
      · subst h1
        have h2 : (CheckFast.one (fun i => acc.getD i 0) x).testBit i = true := by simpa using hb
        unfold CheckFast.one at h2
        rw [← Array.foldl_toList] at h2
        rcases one_bit (fun i => acc.getD i 0) i _ _ h2 with h3 | ⟨e, he, h3, h4⟩
        · simp at h3
        · exact ⟨x, by rw [hs]; simp, e, by simpa using he, h3, h4.imp id (up _)⟩
      · have h2 : (acc.push (CheckFast.one (fun i => acc.getD i 0) x)).getD d 0 = 0 := by
          unfold Array.getD
          rw [dif_neg (by simp; omega)]
        rw [h2] at hb; simp at hb)
    simpa using key
/-- What d hangs on, by the bits of one number an operation. -/
def dp (ops : Array Oper) (d i : Nat) : Bool := ((CheckFast.beforeF ops).getD d 0).testBit i
theorem dp_step {ops : Array Oper} {d i : Nat} (h : dp ops d i = true) : ∃ o, ops[d]? = some o ∧ ∃ e ∈ o.after, Region.binds .any e = true ∧ (e.on = i ∨ dp ops e.on i = true) := by
  unfold dp at h ⊢
  have e : CheckFast.beforeF ops = ops.toList.foldl (fun acc o => acc.push (CheckFast.one (fun i => acc.getD i 0) o)) #[] := by
    rw [CheckFast.beforeF_eq, Array.foldl_toList]; rfl
  rw [e] at h ⊢
  have := before_bit ops.toList [] #[] rfl (fun d i hb => by simp at hb) d i h
  simpa using this

def wpAnyS (P : Program) (ops : Array Oper) (Q : Exit → Act → World → Prop) (S : Array Bool → World → Prop) : Nat → Array Bool → Act → World → Prop
  | 0, listed, a, w => Region.ready .any ops listed = [] ∧ Q .normal a w
  | fuel + 1, listed, a, w =>
    (Region.ready .any ops listed = [] → Q .normal a w) ∧
    ∀ i ∈ Region.ready .any ops listed, wpOp P ops Q i (fun a' w' => S (listed.setIfInBounds i true) w' ∧ wpAnyS P ops Q S fuel (listed.setIfInBounds i true) a' w') a w
variable {ops : Array Oper} {Q : Exit → Act → World → Prop} {S : Array Bool → World → Prop}
theorem wpAny_of_S : ∀ (fuel : Nat) (listed : Array Bool) (a : Act) (w : World), wpAnyS P ops Q S fuel listed a w → wpAny P .any ops Q fuel listed a w
  | 0, _, _, _, h => h
  | fuel + 1, _, _, _, h => ⟨h.1, fun i hi => wpOp_mono (fun a' w' h' => wpAny_of_S fuel _ a' w' h'.2) (h.2 i hi)⟩
theorem wpAnyS_mono {S' : Array Bool → World → Prop} (hS : ∀ L w, S' L w → S L w) : ∀ (fuel : Nat) (listed : Array Bool) (a : Act) (w : World), wpAnyS P ops Q S' fuel listed a w → wpAnyS P ops Q S fuel listed a w
  | 0, _, _, _, h => h
  | fuel + 1, _, _, _, h => ⟨h.1, fun i hi => wpOp_mono (fun a' w' h' => ⟨hS _ _ h'.1, wpAnyS_mono hS fuel _ a' w' h'.2⟩) (h.2 i hi)⟩
theorem wpAnyS_all {rs : List Nat} {fuel : Nat} {listed : Array Bool} {a : Act} {w : World} (hr : Region.ready .any ops listed = rs) (hne : rs ≠ [])
    (h : ∀ i ∈ rs, wpOp P ops Q i (fun a' w' => S (listed.setIfInBounds i true) w' ∧ wpAnyS P ops Q S fuel (listed.setIfInBounds i true) a' w') a w) : wpAnyS P ops Q S (fuel + 1) listed a w :=
  ⟨fun h0 => absurd (hr ▸ h0) hne, hr ▸ h⟩
theorem wpAnyS_done {listed : Array Bool} {a : Act} {w : World} (hr : Region.ready .any ops listed = []) (h : Q .normal a w) : ∀ fuel, wpAnyS P ops Q S fuel listed a w
  | 0 => ⟨hr, h⟩
  | _ + 1 => ⟨fun _ => h, by rw [hr]; simp⟩

/-- None of those that have come up waits for i. -/
def Pend (ops : Array Oper) (i : Nat) (L : Array Bool) : Prop := ∀ d, d ≠ i → L.getD d false = true → dp ops d i = false
def Still (ops : Array Oper) (S : Array Bool → World → Prop) (i : Nat) (w : World) : Prop := ∃ L, Pend ops i L ∧ S L w

theorem unlisted {i : Nat} {listed : Array Bool} (h : listed.getD i true = false) : listed.getD i false = false := by
  rcases Nat.lt_or_ge i listed.size with h' | h'
  · simp [h'] at h ⊢; exact h
  · simp [Array.getElem?_eq_none h'] at h
theorem set_self {i : Nat} {listed : Array Bool} (h : listed.getD i true = false) : (listed.setIfInBounds i true).getD i false = true := by
  rcases Nat.lt_or_ge i listed.size with h' | h'
  · simp [h']
  · simp [Array.getElem?_eq_none h'] at h
def pendB (ops : Array Oper) (D : Array Bool) (i : Nat) : Bool := (List.range D.size).all fun d => Nat.beq d i || !D.getD d false || !dp ops d i
theorem pendB_spec {D : Array Bool} {i : Nat} (h : pendB ops D i = true) : Pend ops i D := by
  intro d hd hl
  have hlt : d < D.size := by
    rcases Nat.lt_or_ge d D.size with h' | h'
    · exact h'
    · simp [Array.getElem?_eq_none h'] at hl
  have := List.all_eq_true.mp h d (List.mem_range.mpr hlt)
  simp only [Bool.or_eq_true, Bool.not_eq_true', hl] at this
  rcases this with (h1 | h1) | h1
  · exact absurd (Nat.eq_of_beq_eq_true h1) hd
  · cases h1
  · exact h1
theorem pend_step {i j : Nat} {listed : Array Bool} (hi : i ∈ Region.ready .any ops listed) (hj : j ∈ Region.ready .any ops listed) (hji : j ≠ i) (hp : Pend ops i listed) : Pend ops i (listed.setIfInBounds j true) := by
  intro d hd hl
  by_cases hdj : d = j
  · subst hdj
    cases hdp : dp ops d i with
    | false => rfl
    | true =>
      obtain ⟨_, o, ho, hall⟩ := mem_ready.1 hj
      have hun := unlisted (mem_ready.1 hi).1
      obtain ⟨o', ho', e, he, hb, h2⟩ := dp_step hdp
      rw [ho] at ho'
      cases ho'
      have hle := hall e he hb
      have hne : e.on ≠ i := fun heq => by rw [heq, hun] at hle; cases hle
      rcases h2 with h2 | h2
      · exact absurd h2 hne
      · rw [hp e.on hne hle] at h2; cases h2
  · rw [getD_set_ne false (Ne.symm hdj)] at hl
    exact hp d hd hl

theorem wpAnyS_first {i : Nat} {oi : Oper} {v : Value} (hi : ops[i]? = some oi) (hsel : ∀ (j : Nat) (o : Oper) cs b, ops[j]? = some o → o.op ≠ .select cs b)
    (hQ : ∀ c a w, Q (.panic c) (a.put oi.dst v) w → Q (.panic c) a w) (hSi : ∀ L w, S (L.setIfInBounds i true) w ↔ S L w) :
    ∀ (fuel : Nat) (listed : Array Bool) (a : Act) (w : World),
      (∀ j oj, ops[j]? = some oj → j ≠ i → listed.getD j true = false → (∀ e ∈ oj.after, Region.binds .any e = true → e.on ≠ i) → oi.apart ops oj = true) →
      i ∈ Region.ready .any ops listed → Pend ops i listed → YieldsIf P ops (Still ops S i) oi v a → S listed w →
      wpAnyS P ops Q S fuel (listed.setIfInBounds i true) (a.put oi.dst v) w → wpAnyS P ops Q S (fuel + 1) listed a w := by
  intro fuel
  induction fuel with
  | zero =>
    intro listed a w _ hr hp hy hS H
    refine ⟨fun h => (by rw [h] at hr; cases hr), fun j hj => ?_⟩
    by_cases hji : j = i
    · subst hji; exact hy.wpOp hi ⟨listed, hp, hS⟩ ⟨(hSi _ _).mpr hS, H⟩
    · have := ready_mono hj hji
      rw [H.1] at this
      cases this
  | succ fuel ih =>
    intro listed a w hfree hr hp hy hS H
    refine ⟨fun h => (by rw [h] at hr; cases hr), fun j hj => ?_⟩
    by_cases hji : j = i
    · subst hji; exact hy.wpOp hi ⟨listed, hp, hS⟩ ⟨(hSi _ _).mpr hS, H⟩
    · have h1 := H.2 j (ready_mono hj hji)
      obtain ⟨hjun, oj, hoj, hall⟩ := mem_ready.1 hj
      have hnot : ∀ e ∈ oj.after, Region.binds .any e = true → e.on ≠ i := fun e he hb heq => by
        have h1 := hall e he hb
        have h0 := (mem_ready.1 hr).1
        rw [heq] at h1
        rw [unlisted h0] at h1
        cases h1
      have h2 := wpOp_putIf hoj (hfree j oj hoj hji hjun hnot) (fun cs b => hsel i oi cs b hi) (fun cs b => hsel j oj cs b hoj) hQ hy h1
      have hfree' : ∀ k ok, ops[k]? = some ok → k ≠ i → (listed.setIfInBounds j true).getD k true = false →
          (∀ e ∈ ok.after, Region.binds .any e = true → e.on ≠ i) → oi.apart ops ok = true := fun k ok hk hki hun hno => by
        refine hfree k ok hk hki ?_ hno
        by_cases hjk : j = k
        · subst hjk; exact hjun
        · rw [getD_set_ne true hjk] at hun; exact hun
      refine wpOp_mono (fun a' w' h3 => ?_) h2
      have hS' : S (listed.setIfInBounds j true) w' := by
        have := h3.2.1
        rw [Array.setIfInBounds_comm _ _ (Ne.symm hji)] at this
        exact (hSi _ _).mp this
      refine ⟨hS', ih (listed.setIfInBounds j true) a' w' hfree' (ready_mono hr (Ne.symm hji)) (pend_step hr hj hji hp) h3.1 hS' ?_⟩
      rw [Array.setIfInBounds_comm _ _ hji]
      exact h3.2.2
theorem wpAnyS_take {i : Nat} {oi : Oper} {v : Value} {fuel : Nat} {listed : Array Bool} {a : Act} {w : World} (hi : ops[i]? = some oi)
    (hs : Region.noSelect ops = true) (hf : Region.free .any ops listed i = true) (hr : (Region.ready .any ops listed).contains i = true)
    (hQ : ∀ c a w, Q (.panic c) (a.put oi.dst v) w → Q (.panic c) a w) (hSi : ∀ L w, S (L.setIfInBounds i true) w ↔ S L w) (hp : Pend ops i listed) (hy : YieldsIf P ops (Still ops S i) oi v a) (hS : S listed w)
    (h : wpAnyS P ops Q S fuel (listed.setIfInBounds i true) (a.put oi.dst v) w) : wpAnyS P ops Q S (fuel + 1) listed a w :=
  wpAnyS_first hi (Region.noSelect_spec hs) hQ hSi fuel listed a w (Region.free_spec hi hf) (by simpa using hr) hp hy hS h
theorem wp_region_S {id : Nat} {a : Act} {w : World} (hm : P.follows .mixedOrders = true)
    (h : wpAnyS P ops Q S ops.size (Array.replicate ops.size false) a { w with drawn := w.drawn + 1 }) : (Code.region id ops true).wp P Q a w :=
  wp_region_any hm (wpAny_of_S _ _ _ _ h)

/-! The states that a region goes through, and what has come up by then. -/
abbrev Tag := List Nat × St
def sameIn (P : Program) (ops : Array Oper) (tm : List Value) (i : Nat) (o : Oper) (v : Value) : List Tag → Bool
  | [] => true
  | t :: l => !(t.1.contains i) && (t.1.any (fun r => dp ops r i) || (match evM P tm t.2 o with
    | some u => veq u v
    | none => false)) && sameIn P ops tm i o v l
theorem sameIn_spec {tm : List Value} {i : Nat} {o : Oper} {v : Value} : ∀ {l : List Tag}, sameIn P ops tm i o v l = true → ∀ t ∈ l, i ∉ t.1 ∧ ((∀ r ∈ t.1, dp ops r i = false) → evM P tm t.2 o = some v)
  | t :: l, h, x, hx => by
    simp only [sameIn, Bool.and_eq_true] at h
    rcases List.mem_cons.mp hx with rfl | hx
    · refine ⟨by simpa using h.1.1, fun hr => ?_⟩
      have h1 := h.1.2
      simp only [Bool.or_eq_true] at h1
      rcases h1 with h1 | h1
      · obtain ⟨r, hr1, hr2⟩ := List.any_eq_true.mp h1
        rw [hr r hr1] at hr2; cases hr2
      · split at h1
        · rename_i u hu; rw [hu, veq_eq u v h1]
        · cases h1
    · exact sameIn_spec h.2 x hx
def noneIs (i : Nat) (l : List Tag) : Bool := l.all fun t => !(t.1.contains i)
theorem noneIs_spec {i : Nat} {l : List Tag} (h : noneIs i l = true) : ∀ t ∈ l, i ∉ t.1 := by
  intro t ht
  have := List.all_eq_true.mp h t ht
  simpa using this

def Sof (K : Nat → Bool) (w0 : World) (ss : List Tag) (N : Nat) (E : Env) (L : Array Bool) (w : World) : Prop :=
  ∃ t ∈ ss, (∀ r ∈ t.1, L.getD r false = true) ∧ ∃ E', Ext N E E' ∧ N ≤ t.2.next ∧ Rel K w0 t.2 E' w
theorem Sof_take {ss : List Tag} {N i : Nat} (h : ∀ t ∈ ss, i ∉ t.1) (L : Array Bool) (w : World) : Sof K w0 ss N E (L.setIfInBounds i true) w ↔ Sof K w0 ss N E L w := by
  constructor
  · rintro ⟨t, ht, h1, h2⟩
    refine ⟨t, ht, fun r hr => ?_, h2⟩
    have hne : i ≠ r := fun e => h t ht (e ▸ hr)
    have := h1 r hr
    rwa [getD_set_ne false hne] at this
  · rintro ⟨t, ht, h1, h2⟩
    exact ⟨t, ht, fun r hr => getD_set_true (h1 r hr), h2⟩
end
end Go.Ev
