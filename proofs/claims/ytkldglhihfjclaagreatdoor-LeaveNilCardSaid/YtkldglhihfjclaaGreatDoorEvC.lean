import Derived.Test.YtkldglhihfjclaaGreatDoorEvB
namespace Go.Ev
open World

theorem cell_push (w : World) (o : Obj) (a : Addr) (h : a.block ≠ w.heap.size) : World.cell? { w with heap := w.heap.push o } a = w.cell? a := by
  unfold World.cell?
  simp only [Array.getElem?_push, h, if_false]
theorem frozen_push (w : World) (o : Obj) (a : Addr) (h : a.block ≠ w.heap.size) : World.frozen? { w with heap := w.heap.push o } a = w.frozen? a := by
  unfold World.frozen?
  simp only [Array.getElem?_push, h, if_false]
theorem setCells_calm (b : Nat) : ∀ (vs : List Value) (o : Nat) (w : World), (w.setCells b o vs).os = w.os ∧ (w.setCells b o vs).tape = w.tape ∧ (w.setCells b o vs).output = w.output
  | [], _, _ => ⟨rfl, rfl, rfl⟩
  | v :: vs, o, w => setCells_calm b vs (o + 1) (w.setCell ⟨b, o, none⟩ v)
theorem setCells_size (b : Nat) : ∀ (vs : List Value) (o : Nat) (w : World), (w.setCells b o vs).heap.size = w.heap.size
  | [], _, _ => rfl
  | v :: r, o, w => by rw [World.setCells, setCells_size b r]; simp [World.setCell]
theorem setCells_heap_ne (b : Nat) (r : Nat) (h : r ≠ b) : ∀ (vs : List Value) (o : Nat) (w : World), (w.setCells b o vs).heap[r]? = w.heap[r]?
  | [], _, _ => rfl
  | v :: l, o, w => by
    rw [World.setCells, setCells_heap_ne b r h l]
    simp only [World.setCell, Array.getElem?_modify]
    rw [if_neg (Ne.symm h)]
theorem setCells_obj (b : Nat) : ∀ (vs : List Value) (o : Nat) (w : World) (c : Array Value) (el : TypeId) (fz : Nat × Nat), w.heap[b]? = some (.cells c el fz) →
    ∃ c', (w.setCells b o vs).heap[b]? = some (.cells c' el fz) ∧ c'.size = c.size
  | [], _, _, c, _, _, h => ⟨c, h, rfl⟩
  | v :: r, o, w, c, el, fz, h => by
    rw [World.setCells]
    have h1 : (w.setCell ⟨b, o, none⟩ v).heap[b]? = some (.cells (c.setIfInBounds o v) el fz) := by
      unfold World.setCell
      simp [Array.getElem?_modify, h]
    obtain ⟨c', h2, h3⟩ := setCells_obj b r (o + 1) _ _ el fz h1
    exact ⟨c', h2, by simpa using h3⟩
theorem cell_heap {w w' : World} (h : w'.heap = w.heap) (a : Addr) : w'.cell? a = w.cell? a := by unfold World.cell?; rw [h]
theorem frozen_heap {w w' : World} (h : w'.heap = w.heap) (a : Addr) : w'.frozen? a = w.frozen? a := by unfold World.frozen?; rw [h]

variable {K : Nat → Bool} {w0 w : World} {σ : St} {E : Env}

theorem Rel.heap_eq {w' : World} (h : Rel K w0 σ E w) (hh : w'.heap = w.heap) (hc : w'.os = w.os ∧ w'.tape = w.tape ∧ w'.output = w.output) : Rel K w0 σ E w' := by
  constructor
  · exact h.lim
  · intro b cs e g s hb j v hv; rw [cell_heap hh]; exact h.cell b cs e g s hb j v hv
  · exact h.good
  · intro b cs e g s hb j hj; rw [cell_heap hh, frozen_heap hh]; exact h.there b cs e g s hb j hj
  · exact h.kin
  · exact h.fam
  · intro b ks vs bo cl hb; rw [hh]; exact h.obj b ks vs bo cl hb
  · intro b s p hb; rw [hh]; exact h.itr b s p hb
  · exact h.apart
  · intro b o hb; rw [hh]; exact h.own b o hb
  · rw [hh]; exact h.size
  · intro r hr hk; rw [hh]; exact h.frame r hr hk
  · intro b cs e g s hb; rw [hh]; exact h.fro b cs e g s hb
  · exact ⟨hc.1.trans h.calm.1, hc.2.1.trans h.calm.2.1, hc.2.2.trans h.calm.2.2⟩
theorem Rel.heap_any {w' : World} (h : Rel K w0 σ E w) (hh : w'.heap = w.heap) : Rel K { w0 with os := w'.os, tape := w'.tape, output := w'.output } σ E w' := by
  constructor
  · exact h.lim
  · intro b cs e g s hb j v hv; rw [cell_heap hh]; exact h.cell b cs e g s hb j v hv
  · exact h.good
  · intro b cs e g s hb j hj; rw [cell_heap hh, frozen_heap hh]; exact h.there b cs e g s hb j hj
  · exact h.kin
  · exact h.fam
  · intro b ks vs bo cl hb; rw [hh]; exact h.obj b ks vs bo cl hb
  · intro b s p hb; rw [hh]; exact h.itr b s p hb
  · exact h.apart
  · intro b o hb; rw [hh]; exact h.own b o hb
  · rw [hh]; exact h.size
  · intro r hr hk; rw [hh]; exact h.frame r hr hk
  · intro b cs e g s hb; rw [hh]; exact h.fro b cs e g s hb
  · exact ⟨rfl, rfl, rfl⟩

def upd (E : Env) (n : Nat) (s : Slot) : Env := fun b => if b = n then s else E b
theorem upd_same (E : Env) (n : Nat) (s : Slot) : upd E n s n = s := by simp [upd]
theorem upd_ne (E : Env) {n b : Nat} (s : Slot) (h : b ≠ n) : upd E n s b = E b := by simp [upd, h]
theorem upd_ext (E : Env) (n : Nat) (s : Slot) : Ext n E (upd E n s) := fun b hb => upd_ne E s (by omega)

theorem ren_upd {n : Nat} {s : Slot} {l : List Value} (h : ∀ v ∈ l, ok n E v) : l.map (ren (upd E n s)) = l.map (ren E) := map_ren_ext (upd_ext E n s) h

/-- A new block of cells. -/
theorem Rel.push (h : Rel K w0 σ E w) (hr : σ.room = true) (cs : List Value) (full : Array Value) (el : TypeId) (fz : Nat × Nat) (esz cap g0 s0 : Nat) (hg0 : g0 ≤ σ.next)
    (hc : ∀ v ∈ cs, ok σ.next E v ∧ v.oneCell' = true)
    (hfull : ∀ (j : Nat) (v : Value), (cs.map (ren E))[j]? = some v → full[j]? = some v)
    (hcap : max cs.length (cap * esz) ≤ full.size) (hfz : fz.1 = fz.2 ∨ full.size ≤ fz.1) :
    Rel K w0 (σ.newIn cs esz g0 s0) (upd E σ.next ⟨w.heap.size, 0, cap⟩) { w with heap := w.heap.push (.cells full el fz) } := by
  have hlim := h.lim
  have hroom : σ.next < 16000 := Nat.blt_eq.mp hr
  have hn : (σ.newIn cs esz g0 s0).next = σ.next + 1 := rfl
  -- what is there is the new one, or was there
  have get : ∀ x o, (σ.newIn cs esz g0 s0).get x = some o → (x = σ.next ∧ o = .cells cs esz g0 s0) ∨ (x < σ.next ∧ x ≠ σ.next ∧ σ.get x = some o) := by
    intro x o hx
    by_cases e : x = σ.next
    · subst e; rw [get_new _ _ _ _ _ hlim] at hx; exact Or.inl ⟨rfl, (Option.some.inj hx).symm⟩
    · rw [get_new_ne σ cs esz _ _ x e] at hx; exact Or.inr ⟨get_dom hx, e, hx⟩
  have okx : ∀ {v}, ok σ.next E v → ok (σ.next + 1) (upd E σ.next ⟨w.heap.size, 0, cap⟩) v := fun hv => ok_ext (by omega) (upd_ext E _ _) _ hv
  have own := h.own
  constructor
  · rw [hn]; omega
  · intro b cs' e g s hb j v hv
    rcases get b _ hb with ⟨rfl, ho⟩ | ⟨hlt, hne, ho⟩
    · cases ho
      rw [upd_same]
      simp only [Nat.zero_add]
      rw [ren_upd (fun v hv => (hc v hv).1)] at hv
      have := hfull j v hv
      unfold World.cell?
      simp [Array.getElem?_push, this]
    · rw [upd_ne E _ hne, cell_push _ _ _ (by have := (own b _ ho).1; show (E b).blk ≠ _; omega)]
      rw [ren_upd (fun v hv => (h.good b _ _ _ _ ho v hv).1)] at hv
      exact h.cell b _ _ _ _ ho j v hv
  · intro b cs' e g s hb v hv
    rcases get b _ hb with ⟨rfl, ho⟩ | ⟨hlt, hne, ho⟩
    · cases ho; exact ⟨okx (hc v hv).1, (hc v hv).2⟩
    · exact ⟨okx (h.good b _ _ _ _ ho v hv).1, (h.good b _ _ _ _ ho v hv).2⟩
  · intro b cs' e g s hb j hj
    rcases get b _ hb with ⟨rfl, ho⟩ | ⟨hlt, hne, ho⟩
    · cases ho
      rw [upd_same] at hj ⊢
      simp only [Nat.zero_add]
      have hj' : j < full.size := by simp only [] at hj; omega
      constructor
      · unfold World.cell?; simp [Array.getElem?_push, hj']
      · unfold World.frozen?
        simp only [Array.getElem?_push]
        have : ¬ (fz.1 ≤ j ∧ j < fz.2) := by omega
        simpa using this
    · rw [upd_ne E _ hne] at hj ⊢
      have hb' := (own b _ ho).1
      rw [cell_push _ _ _ (by show (E b).blk ≠ _; omega), frozen_push _ _ _ (by show (E b).blk ≠ _; omega)]
      exact h.there b _ _ _ _ ho j hj
  · intro b cs' e g s hb
    rcases get b _ hb with ⟨rfl, ho⟩ | ⟨hlt, hne, ho⟩
    · cases ho; rw [hn]; exact ⟨kin_new σ _ _ _ _ hlim hg0, by omega⟩
    · have hk := h.kin b _ _ _ _ ho
      exact ⟨kin_new_sub σ _ _ _ _ _ hlim hg0 _ hk.1, by rw [hn]; omega⟩
  · intro b cs1 e1 g1 s1 b' cs2 e2 g2 s2 hb hb' he
    rcases get b _ hb with ⟨rfl, ho⟩ | ⟨hlt, hne, ho⟩ <;> rcases get b' _ hb' with ⟨rfl, ho'⟩ | ⟨hlt', hne', ho'⟩
    · cases ho; cases ho'; exact ⟨rfl, rfl⟩
    · rw [upd_same, upd_ne E _ hne'] at he
      have := (own b' _ ho').1
      simp only [] at he
      omega
    · rw [upd_same, upd_ne E _ hne] at he
      have := (own b _ ho).1
      simp only [] at he
      omega
    · rw [upd_ne E _ hne, upd_ne E _ hne'] at he ⊢
      exact h.fam b _ _ _ _ b' _ _ _ _ ho ho' he
  · intro b ks vs bo cl hb
    rcases get b _ hb with ⟨rfl, ho⟩ | ⟨hlt, hne, ho⟩
    · cases ho
    · obtain ⟨es, h1, h2, h3, h4, h5, h6⟩ := h.obj b _ _ _ _ ho
      have hb' := (own b _ ho).1
      refine ⟨es, ?_, ?_, h3, h4, fun v hv => okx (h5 v hv), fun v hv => okx (h6 v hv)⟩
      · rw [upd_ne E _ hne]
        simp only [Array.getElem?_push]
        rw [if_neg (by omega)]; exact h1
      · rw [h2]
        refine List.map_congr_left fun x hx => ?_
        obtain ⟨k, v, n⟩ := x
        have hk := List.of_mem_zip hx
        have hv := List.of_mem_zip hk.2
        simp only [ren_ext (upd_ext E _ _) k (h5 k hk.1), ren_ext (upd_ext E _ _) v (h6 v hv.1)]
  · intro b s p hb
    rcases get b _ hb with ⟨rfl, ho⟩ | ⟨hlt, hne, ho⟩
    · cases ho
    · have hb' := (own b _ ho).1
      rw [upd_ne E _ hne]
      simp only [Array.getElem?_push]
      rw [if_neg (by omega)]
      exact h.itr b _ _ ho
  · intro b o b' o' hb hb' hbb he
    rcases get b _ hb with ⟨rfl, ho⟩ | ⟨hlt, hne, ho⟩ <;> rcases get b' _ hb' with ⟨rfl, ho'⟩ | ⟨hlt', hne', ho'⟩
    · exact absurd rfl hbb
    · rw [upd_same, upd_ne E _ hne'] at he
      have := (own b' _ ho').1
      simp only [] at he
      omega
    · rw [upd_same, upd_ne E _ hne] at he
      have := (own b _ ho).1
      simp only [] at he
      omega
    · rw [upd_ne E _ hne, upd_ne E _ hne'] at he
      exact h.apart b o b' o' ho ho' hbb he
  · intro b o hb
    rcases get b _ hb with ⟨rfl, ho⟩ | ⟨hlt, hne, ho⟩
    · rw [upd_same]
      simp only [Array.size_push]
      exact ⟨by omega, Or.inr h.size⟩
    · rw [upd_ne E _ hne]
      have := own b _ ho
      simp only [Array.size_push]
      exact ⟨by omega, this.2⟩
  · simp only [Array.size_push]; have := h.size; omega
  · intro r hr hk
    have := h.size
    simp only [Array.getElem?_push]
    rw [if_neg (by omega)]
    exact h.frame r hr hk
  · intro b cs' e g s hb
    rcases get b _ hb with ⟨rfl, ho⟩ | ⟨hlt, hne, ho⟩
    · rw [upd_same]
      exact ⟨full, el, fz, by simp, hfz⟩
    · rw [upd_ne E _ hne]
      have hb' := (own b _ ho).1
      rw [Array.getElem?_push, if_neg (by omega)]
      exact h.fro b _ _ _ _ ho
  · exact h.calm
/-- With less in the short memory it is the world's still. -/
theorem Rel.sub {σ' : St} (h : Rel K w0 σ E w) (hn : σ'.next = σ.next) (hk : ∀ g, σ'.kin g = σ.kin g) (hg : ∀ x o, σ'.get x = some o → σ.get x = some o) : Rel K w0 σ' E w := by
  constructor
  · rw [hn]; exact h.lim
  · intro b cs e g s hb; exact h.cell b cs e g s (hg _ _ hb)
  · intro b cs e g s hb; rw [hn]; exact h.good b cs e g s (hg _ _ hb)
  · intro b cs e g s hb; exact h.there b cs e g s (hg _ _ hb)
  · intro b cs e g s hb; rw [hn, hk]; exact h.kin b cs e g s (hg _ _ hb)
  · intro b cs e g s b' cs' e' g' s' hb hb'; exact h.fam b cs e g s b' cs' e' g' s' (hg _ _ hb) (hg _ _ hb')
  · intro b ks vs bo cl hb; rw [hn]; exact h.obj b ks vs bo cl (hg _ _ hb)
  · intro b s p hb; exact h.itr b s p (hg _ _ hb)
  · intro b o b' o' hb hb'; exact h.apart b o b' o' (hg _ _ hb) (hg _ _ hb')
  · intro b o hb; exact h.own b o (hg _ _ hb)
  · exact h.size
  · exact h.frame
  · intro b cs e g s hb; exact h.fro b cs e g s (hg _ _ hb)
  · exact h.calm
theorem Rel.prune (h : Rel K w0 σ E w) (g : Nat) (hg : g < σ.next) : Rel K w0 (σ.prune g) E w ∧ (σ.prune g).next = σ.next := by
  unfold St.prune
  split
  · rename_i a d b hk
    refine ⟨?_, rfl⟩
    have hlim := h.lim
    have hget : ∀ x o, St.get { heap := σ.heap.set dep b none, mem := σ.mem.set dep g (some [a, d]), next := σ.next } x = some o → σ.get x = some o ∧ (x = b → False) := by
      intro x o hx
      have hx' : (σ.kill b).get x = some o := hx
      refine ⟨kill_sub σ hlim b x o hx', fun e => ?_⟩
      subst e
      rw [get_kill _ _ hlim] at hx'; cases hx'
    have hkin : ∀ x g', x ≠ b → x ∈ σ.kin g' → x ∈ St.kin { heap := σ.heap.set dep b none, mem := σ.mem.set dep g (some [a, d]), next := σ.next } g' := by
      intro x g' hxb hx
      unfold St.kin at *
      rcases List.mem_cons.mp hx with rfl | hx
      · exact List.mem_cons_self
      · refine List.mem_cons_of_mem _ ?_
        by_cases e : g' = g
        · subst e
          rw [hk] at hx
          unfold St.aka
          rw [Tr.get_set_same _ _ _ _ (dep_ok (by omega))]
          simp only [List.mem_cons, List.not_mem_nil, or_false] at hx ⊢
          rcases hx with hx | hx | hx
          · exact Or.inl hx
          · exact Or.inr hx
          · exact absurd hx hxb
        · unfold St.aka at *
          rw [Tr.get_set_ne _ _ _ _ _ e]; exact hx
    constructor
    · exact h.lim
    · intro b cs e g s hb; exact h.cell b cs e g s (hget _ _ hb).1
    · intro b cs e g s hb; exact h.good b cs e g s (hget _ _ hb).1
    · intro b cs e g s hb; exact h.there b cs e g s (hget _ _ hb).1
    · intro x cs e g' s hb
      obtain ⟨h1, h2⟩ := hget _ _ hb
      have hk' := h.kin x cs e g' s h1
      exact ⟨hkin x g' h2 hk'.1, hk'.2⟩
    · intro b cs e g s b' cs' e' g' s' hb hb'; exact h.fam b cs e g s b' cs' e' g' s' (hget _ _ hb).1 (hget _ _ hb').1
    · intro b ks vs bo cl hb; exact h.obj b ks vs bo cl (hget _ _ hb).1
    · intro b s p hb; exact h.itr b s p (hget _ _ hb).1
    · intro b o b' o' hb hb'; exact h.apart b o b' o' (hget _ _ hb).1 (hget _ _ hb').1
    · intro b o hb; exact h.own b o (hget _ _ hb).1
    · exact h.size
    · exact h.frame
    · intro b cs e g s hb; exact h.fro b cs e g s (hget _ _ hb).1
    · exact h.calm
  · exact ⟨h, rfl⟩
theorem Rel.hit (h : Rel K w0 σ E w) (b p n : Nat) (l : List Nat) : Rel K w0 (σ.hit b p n l) E w :=
  h.sub (hit_next _ _ _ _ _) (fun g => hit_kin _ _ _ _ _ g) (fun x o hx => hit_sub _ _ _ _ _ h.lim x o hx)
end Go.Ev
