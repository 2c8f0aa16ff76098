/- What the walk of StoreSure keeps beside a store. -/
import Derived.Test.YtbbefakmpmniiaaGreatDoorStSureA
namespace Go.Proofs.YtbbefakmpmniiaaGreatDoor
open Go.RowKit Go.Maps
open KV (bcell bdrew)
theorem froz2 {w : World} {g : Nat} {a b : Value} {t : TypeId} (h : w.heap[g]? = some (.cells #[a, b] t (0, 0))) (i : Nat) : w.frozen? ⟨g, i, none⟩ = false := by simp [World.frozen?, h]
abbrev crO (cr : CrS) : Obj := .cells #[cr.kv, .int .u8 cr.at_] 78
theorem SeesM.keep {w w' : World} {M n c : Nat} {ls : List (KV.KSt × Value)} (h : SeesM w (.slice (some ⟨M, 0, none⟩) n c) ls) (hM : w'.heap[M]? = w.heap[M]?) (hv : ∀ p ∈ ls, ∀ d, p.2.ownBlock = some d → w'.heap[d]? = w.heap[d]?) : SeesM w' (.slice (some ⟨M, 0, none⟩) n c) ls := by
  obtain ⟨a, c', e, hl, hc⟩ := h
  obtain ⟨rfl, rfl, rfl⟩ : (⟨M, 0, none⟩ : Addr) = a ∧ n = ls.length ∧ c = c' := by simpa using e
  have hk : ∀ i, w'.cell? ((⟨M, 0, none⟩ : Addr).add i) = w.cell? ((⟨M, 0, none⟩ : Addr).add i) := fun i => by rw [addz]; simp [World.cell?, hM]
  have hk2 : ∀ i, w'.cell? (((⟨M, 0, none⟩ : Addr).add i).add 1) = w.cell? (((⟨M, 0, none⟩ : Addr).add i).add 1) := fun i => by
    have hb : (((⟨M, 0, none⟩ : Addr).add i).add 1).block = M := by rw [add_block, add_block]
    simp [World.cell?, hb, hM]
  exact ⟨_, c, rfl, hl, fun i p hp => ⟨(hk _).trans (hc i p hp).1, (hk2 _).trans (hc i p hp).2.1, (hc i p hp).2.2.1.keep (fun d hd _ => hv p (List.mem_of_getElem? hp) d hd), (hc i p hp).2.2.2⟩⟩
/-- What stays beside a store: the document's state in a variable, a row of states, a crash; none of it where the store writes. -/
def TB (w : World) (B C M : Nat) (Z : Nat → Prop) (R : Int) (u : Value) (ms : List (KV.KSt × Value)) (cr : CrS) (n : Nat) : Prop :=
  w.heap[B]? = some (KV.stO R u) ∧ w.heap[C]? = some (crO cr) ∧ SeesM w (.slice (some ⟨M, 0, none⟩) ms.length ms.length) ms ∧ (∀ x, (x = B ∨ x = C ∨ x = M ∨ ∃ p ∈ ms, p.2.ownBlock = some x) → ¬ Z x ∧ x < w.heap.size) ∧ (∀ p ∈ ms, ∀ d, p.2.ownBlock = some d → d ≠ B) ∧ n ≤ B ∧ B ≠ C ∧ B ≠ M
theorem TB.step {w w' : World} {B C M n : Nat} {Z Z' : Nat → Prop} {R : Int} {u : Value} {ms : List (KV.KSt × Value)} {cr : CrS} (h : TB w B C M Z R u ms cr n) (ht : Touch Z w w') (hz : ∀ i, Z' i → Z i ∨ w.heap.size ≤ i) : TB w' B C M Z' R u ms cr n := by
  obtain ⟨h1, h2, h3, h5, h6⟩ := h
  have hk : ∀ x, (x = B ∨ x = C ∨ x = M ∨ ∃ p ∈ ms, p.2.ownBlock = some x) → w'.heap[x]? = w.heap[x]? := fun x hx => ht.2.2.2.2 x (h5 x hx).2 (h5 x hx).1
  exact ⟨(hk B (Or.inl rfl)).trans h1, (hk C (Or.inr (Or.inl rfl))).trans h2, h3.keep (hk M (Or.inr (Or.inr (Or.inl rfl)))) (fun p hp d hd => hk d (Or.inr (Or.inr (Or.inr ⟨p, hp, hd⟩)))), fun x hx => ⟨fun hp => (hz x hp).elim (h5 x hx).1 (fun h => by have := (h5 x hx).2; omega), Nat.lt_of_lt_of_le (h5 x hx).2 ht.2.2.2.1⟩, h6⟩
theorem TB.below {w w' : World} {B C M n : Nat} {Z : Nat → Prop} {R : Int} {u : Value} {ms : List (KV.KSt × Value)} {cr : CrS} (h : TB w B C M Z R u ms cr n) (hb : Below w.heap.size w w') : TB w' B C M Z R u ms cr n :=
  h.step (Touch.of_below Z hb) (fun _ h => Or.inl h)
theorem seesM_one {w : World} {M : Nat} {S : KV.KSt} {vr : Value} (h : w.heap[M]? = some (KV.stO S.rev vr)) (hs : KV.SeesI w vr S.L) (hl : S.L.length ≤ 1000000) : SeesM w (.slice (some ⟨M, 0, none⟩) 1 1) [(S, vr)] := by
  refine ⟨⟨M, 0, none⟩, 1, rfl, Nat.le_refl _, fun i p hp => ?_⟩
  cases i with
  | zero =>
    obtain rfl := Option.some.inj hp
    rw [Nat.zero_mul, addz]
    exact ⟨cell0 h, by rw [addz]; exact cell1 h, hs, hl⟩
  | succ i => cases hp
theorem seesM_two {w : World} {M : Nat} {S S' : KV.KSt} {vr vs : Value} {t : TypeId} (h : w.heap[M]? = some (.cells #[.int .i64 S.rev, vr, .int .i64 S'.rev, vs] t (0, 0))) (hs : KV.SeesI w vr S.L) (hl : S.L.length ≤ 1000000) (hs' : KV.SeesI w vs S'.L) (hl' : S'.L.length ≤ 1000000) : SeesM w (.slice (some ⟨M, 0, none⟩) 2 2) [(S, vr), (S', vs)] := by
  obtain ⟨e0, e1, e2, e3⟩ := lcells h
  refine ⟨⟨M, 0, none⟩, 2, rfl, Nat.le_refl _, fun i p hp => ?_⟩
  match i with
  | 0 =>
    obtain rfl := Option.some.inj hp
    rw [Nat.zero_mul, addz]
    exact ⟨e0, by rw [addz]; exact e1, hs, hl⟩
  | 1 =>
    obtain rfl := Option.some.inj hp
    rw [Nat.one_mul, addz]
    refine ⟨e2, ?_, hs', hl'⟩
    have e : (⟨M, 2, none⟩ : Addr).add 1 = ⟨M, 3, none⟩ := rfl
    rw [e]
    exact e3
  | i + 2 => cases hp
theorem rowFormR {w : World} {B : Nat} {v : Value} {L : List KV.KEnt} (h : KV.RowR w B v L) : ∃ ao c, v = .slice ao L.length c := by
  rcases h.2 with ⟨rfl, hn⟩ | ⟨g, cap, cur, rfl, _⟩
  · exact ⟨none, 0, by rw [hn]⟩
  · exact ⟨_, _, rfl⟩
abbrev ZS (P Q : Nat → Prop) (l s : Nat) (i : Nat) : Prop := P i ∨ Q i ∨ i = l ∨ i = s
/-- A state laid into the variable, and a row of it alone. -/
theorem TB.one {w : World} {B C M n : Nat} {Z : Nat → Prop} {R : Int} {u : Value} {ms : List (KV.KSt × Value)} {cr : CrS} (h : TB w B C M Z R u ms cr n) {S : KV.KSt} {vs : Value} (hs : KV.SeesI w vs S.L) (hl : S.L.length ≤ 1000000) (hv : ∀ d, vs.ownBlock = some d → d ≠ B ∧ ¬ Z d ∧ d < w.heap.size) (hZ : ∀ i, Z i → i < w.heap.size) :
    TB ((KV.put2 w B (.int .i64 S.rev) vs).alloc (KV.stO S.rev vs)) B C w.heap.size Z S.rev vs [(S, vs)] cr n ∧ Touch (· = B) w ((KV.put2 w B (.int .i64 S.rev) vs).alloc (KV.stO S.rev vs)) := by
  obtain ⟨h1, h2, h3, h5, h6, h7, h8, h9⟩ := h
  have hz : (KV.put2 w B (.int .i64 S.rev) vs).heap.size = w.heap.size := by simp [KV.put2, World.setCell]
  have hn : ((KV.put2 w B (.int .i64 S.rev) vs).alloc (KV.stO S.rev vs)).heap[w.heap.size]? = some (KV.stO S.rev vs) := by
    have := heap_alloc_new (KV.put2 w B (.int .i64 S.rev) vs) (KV.stO S.rev vs)
    rwa [hz] at this
  have hold : ∀ x, x < w.heap.size → x ≠ B → ((KV.put2 w B (.int .i64 S.rev) vs).alloc (KV.stO S.rev vs)).heap[x]? = w.heap[x]? := fun x hx hxB => by
    rw [heap_alloc_old _ _ _ (by rw [hz]; exact hx), KV.put2_ne hxB]
  have hB := (h5 B (Or.inl rfl)).2
  have hBn : ((KV.put2 w B (.int .i64 S.rev) vs).alloc (KV.stO S.rev vs)).heap[B]? = some (KV.stO S.rev vs) := by
    rw [heap_alloc_old _ _ _ (by rw [hz]; exact hB)]
    exact KV.put2_at h1 _ _
  have hC := (h5 C (Or.inr (Or.inl rfl))).2
  have hs' : KV.SeesI ((KV.put2 w B (.int .i64 S.rev) vs).alloc (KV.stO S.rev vs)) vs S.L := hs.keep (fun d hd hlt => hold d hlt (hv d hd).1)
  have hsz : ((KV.put2 w B (.int .i64 S.rev) vs).alloc (KV.stO S.rev vs)).heap.size = w.heap.size + 1 := by rw [← hz]; show ((KV.put2 w B _ _).heap.push _).size = _; simp
  refine ⟨⟨hBn, (hold C hC (fun e => h8 e.symm)).trans h2, seesM_one hn hs' hl, fun x hx => ?_, fun p hp d hd => ?_, h7, h8, by omega⟩, ?_⟩
  · rw [hsz]
    rcases hx with rfl | rfl | rfl | ⟨p, hp, hd⟩
    · exact ⟨(h5 _ (Or.inl rfl)).1, by omega⟩
    · exact ⟨(h5 _ (Or.inr (Or.inl rfl))).1, by omega⟩
    · exact ⟨fun h => by have := hZ _ h; omega, by omega⟩
    · obtain rfl := List.mem_singleton.1 hp
      exact ⟨(hv x hd).2.1, by have := (hv x hd).2.2; omega⟩
  · obtain rfl := List.mem_singleton.1 hp
    exact (hv d hd).1
  · exact ⟨rfl, rfl, rfl, by rw [hsz]; omega, fun x hx hxB => hold x hx hxB⟩
/-- A row of two states. -/
theorem TB.two {w : World} {B C M n : Nat} {Z : Nat → Prop} {cr : CrS} {S S' : KV.KSt} {vr vs : Value} (h : TB w B C M Z S.rev vr [(S, vr)] cr n) (hs : KV.SeesI w vs S'.L) (hl : S'.L.length ≤ 1000000) (hv : ∀ d, vs.ownBlock = some d → d ≠ B ∧ ¬ Z d ∧ d < w.heap.size) (hZ : ∀ i, Z i → i < w.heap.size) :
    TB (w.alloc (.cells #[.int .i64 S.rev, vr, .int .i64 S'.rev, vs] 54)) B C w.heap.size Z S.rev vr [(S, vr), (S', vs)] cr n := by
  have hb := belNew w (.cells #[.int .i64 S.rev, vr, .int .i64 S'.rev, vs] 54)
  have h' := h.below hb
  obtain ⟨h1, h2, h3, h5, h6, h7, h8, h9⟩ := h'
  have hB := (h.2.2.2.1 B (Or.inl rfl)).2
  obtain ⟨a, c, e, _, hc⟩ := h3
  obtain ⟨-, -, hse, hln⟩ := hc 0 (S, vr) rfl
  refine ⟨h1, h2, seesM_two (heap_alloc_new w _) hse hln (hs.below hb) hl, fun x hx => ?_, fun p hp d hd => ?_, h7, h8, by omega⟩
  · have hsz : (w.alloc (.cells #[.int .i64 S.rev, vr, .int .i64 S'.rev, vs] 54)).heap.size = w.heap.size + 1 := by show (w.heap.push _).size = _; simp
    rw [hsz]
    rcases hx with rfl | rfl | rfl | ⟨p, hp, hd⟩
    · exact ⟨(h5 _ (Or.inl rfl)).1, by omega⟩
    · have := (h.2.2.2.1 _ (Or.inr (Or.inl rfl))).2
      exact ⟨(h5 _ (Or.inr (Or.inl rfl))).1, by omega⟩
    · exact ⟨fun h => by have := hZ _ h; omega, by omega⟩
    · rcases List.mem_cons.1 hp with rfl | hp
      · have := (h.2.2.2.1 x (Or.inr (Or.inr (Or.inr ⟨(S, vr), by simp, hd⟩)))).2
        exact ⟨(h5 x (Or.inr (Or.inr (Or.inr ⟨(S, vr), by simp, hd⟩)))).1, by omega⟩
      · obtain rfl := List.mem_singleton.1 hp
        exact ⟨(hv x hd).2.1, by have := (hv x hd).2.2; omega⟩
  · rcases List.mem_cons.1 hp with rfl | hp
    · exact h6 (S, vr) (by simp) d hd
    · obtain rfl := List.mem_singleton.1 hp
      exact (hv d hd).1
theorem opens_ev {w w' : World} {g N n : Nat} {P : Nat → Prop} {D : DSt} {ev : Int} {e : Ending} {S : KV.KSt} (h : OpensS w g P N D ev e w') (hop : opS D = (0, S))
    (hg : ∀ m x D', AllIs (recsOf (readD D nLog.data.toList).1) (readD D nLog.data.toList).1 m x → settleD D nLog.data.toList (readD D nLog.data.toList).1.length m = (0, D') → GoodS n false ⟨D', m, false⟩ S) :
    ∃ P' s k l Pk T ev', e = .returned (.tuple #[ptr s, .int .i64 0]) ∧ SAll w' s g l k P' Pk T S ev' 0 false ∧ GoodS n false T S ∧ Step P P' w w' ∧ (∀ i, Pk i → w.heap.size ≤ i) ∧ w.heap.size ≤ l ∧ w.heap.size ≤ s := by
  obtain ⟨P', s, k, l, Pk, T, h1, h2, h3⟩ := opens_of h hop hg
  exact ⟨P', s, k, l, Pk, T, _, h1, h2, h3⟩
theorem SAll.zlt {w : World} {s g l k : Nat} {P Pk : Nat → Prop} {T : WSt} {S : KV.KSt} {ev wr : Int} {dead : Bool} (h : SAll w s g l k P Pk T S ev wr dead) : ∀ i, ZS P Pk l s i → i < w.heap.size := fun i hi => by
  rcases hi with hi | hi | hi | hi
  · exact DiskAt.lt h.2.1 hi
  · exact KV.KvAt.own h.2.2.2.1 i hi
  · rw [hi]; exact heap_lt h.2.2.1
  · rw [hi]; exact heap_lt h.1
theorem StepS.zs {P P' Pk Pk' : Nat → Prop} {l s : Nat} {a b : World} (h : StepS P P' Pk Pk' l s a b) : ∀ i, ZS P' Pk' l s i → ZS P Pk l s i ∨ a.heap.size ≤ i := fun i hi => by
  rcases hi with hi | hi | hi
  · exact (h.2.1 i hi).imp Or.inl id
  · exact (h.2.2 i hi).imp (fun h => Or.inr (Or.inl h)) id
  · exact Or.inl (Or.inr (Or.inr hi))
theorem seesU_form {w : World} {v : Value} {ks : List Int} (h : SeesU w v ks) : ∃ ao c, v = .slice ao ks.length c := by
  obtain ⟨ao, c, e, _⟩ := h
  exact ⟨ao, c, e⟩
theorem seesU_lt {w : World} {v : Value} {ks : List Int} (h : SeesU w v ks) : ks ≠ [] → ∀ d, v.ownBlock = some d → d < w.heap.size := by
  intro hne d hd
  obtain ⟨ao, c, rfl, _, _, hcell⟩ := h
  cases ao with
  | none => cases hd
  | some b0 =>
    have := cell_lt8 (hcell b0 rfl 0 (List.length_pos_iff.2 hne))
    rw [add_block] at this
    cases hd
    exact this
/-- A row of one state, laid anew. -/
theorem TB.init {w : World} {B C n : Nat} {Z : Nat → Prop} {cr : CrS} {S : KV.KSt} {vr : Value} (h1 : w.heap[B]? = some (KV.stO S.rev vr)) (h2 : w.heap[C]? = some (crO cr)) (hs : KV.SeesI w vr S.L) (hl : S.L.length ≤ 1000000) (hv : ∀ d, vr.ownBlock = some d → d ≠ B ∧ ¬ Z d ∧ d < w.heap.size) (hB : ¬ Z B) (hC : ¬ Z C) (hZ : ∀ i, Z i → i < w.heap.size) (hn : n ≤ B) (hBC : B ≠ C) :
    TB (w.alloc (KV.stO S.rev vr)) B C w.heap.size Z S.rev vr [(S, vr)] cr n := by
  have hb := belNew w (KV.stO S.rev vr)
  have hBl := heap_lt h1
  have hCl := heap_lt h2
  have hsz : (w.alloc (KV.stO S.rev vr)).heap.size = w.heap.size + 1 := by show (w.heap.push _).size = _; simp
  refine ⟨(hb.block _ hBl).trans h1, (hb.block _ hCl).trans h2, seesM_one (heap_alloc_new w _) (hs.below hb) hl, fun x hx => ?_, fun p hp d hd => ?_, hn, hBC, by omega⟩
  · rw [hsz]
    rcases hx with rfl | rfl | rfl | ⟨p, hp, hd⟩
    · exact ⟨hB, by omega⟩
    · exact ⟨hC, by omega⟩
    · exact ⟨fun h => by have := hZ _ h; omega, by omega⟩
    · obtain rfl := List.mem_singleton.1 hp
      exact ⟨(hv x hd).2.1, by have := (hv x hd).2.2; omega⟩
  · obtain rfl := List.mem_singleton.1 hp
    exact (hv d hd).1
theorem tm24 {x : Int} (h0 : 0 ≤ x) (k : Int) (hk : 0 < k) : 0 ≤ x.tmod k ∧ x.tmod k < k := by
  rw [Int.tmod_eq_emod_of_nonneg h0]
  exact ⟨Int.emod_nonneg _ (by omega), Int.emod_lt_of_pos _ hk⟩
theorem plan_its (S : KV.KSt) (o : KV.KOp) : (KV.planK S o).1.its.length ≤ S.L.length := by
  unfold KV.planK
  by_cases h1 : o.kind = 1
  · rw [if_pos h1]; exact Nat.zero_le _
  · rw [if_neg h1]
    by_cases h2 : o.kind = 2
    · rw [if_pos h2]
      show (KV.beginL S.L o.key).length ≤ _
      unfold KV.beginL
      exact List.length_filter_le _ _
    · rw [if_neg h2]
      by_cases h3 : KV.refuse S o = 0
      · rw [if_pos h3]; exact Nat.zero_le _
      · rw [if_neg h3]; exact Nat.zero_le _
end Go.Proofs.YtbbefakmpmniiaaGreatDoor
