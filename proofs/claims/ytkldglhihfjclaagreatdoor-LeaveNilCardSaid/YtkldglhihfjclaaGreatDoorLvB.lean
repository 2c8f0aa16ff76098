/- leave.Go with what is no name: it ends at once. -/
import Derived.Test.YtkldglhihfjclaaGreatDoorNMc
import Derived.Test.YtkldglhihfjclaaGreatDoorLvA
namespace Go.Proofs.YtkldglhihfjclaaGreatDoor
open Go.RowKit Go.Maps Go.Ev
def procZ : List Value := [.int .i64 0, .string ⟨#[]⟩, .string ⟨#[]⟩, .int .i64 0, .string ⟨#[]⟩, .int .i64 0, .bool false, .nilFunc, .int .i64 0]
def endC (n m : Int) : List Value := [.int .i64 n, .int .i64 m]
def blk0 : ByteArray := ⟨#[98, 108, 111, 99, 107, 47, 48, 46, 48, 46, 48, 46, 48, 45, 50, 54]⟩
def leavC (p : Value) (s : ByteArray) (h : Value) : List Value := [p, .string s, .string ⟨#[]⟩, .string blk0, .int .i64 0, .int .i64 0, .int .i64 0, .int .i64 0, .string ⟨#[]⟩, .slice none 0 0, h]
abbrev pt (p : Nat × Nat) : Value := .pointer (some ⟨p.1, p.2, none⟩)
abbrev hearV (v : Value) : Value := .func (.func 13) #[v] #[]
theorem alloc_new (w : World) (o : Obj) : (w.alloc o).heap[w.heap.size]? = some o := by
  show (w.heap.push o)[w.heap.size]? = some o
  simp
theorem alloc_below (w : World) (o : Obj) : Below w.heap.size w (w.alloc o) := (Below.refl _ _).alloc (Nat.le_refl _) _
theorem clBlk : closeB Tryz.prog (xOne 120) 100000 60 32 [.int .u32 0] (.string blk0) [] = true := by decide +kernel
theorem block0_any (w : World) (hE : NM.Env w) : Calls Tryz.prog 32 #[.int .u32 0] w fun e w' => e = .returned (.string blk0) ∧ Below w.heap.size w w' := by
  obtain ⟨o, m, ho, hm⟩ := gmax hE
  exact close_run (oneX hm) mix_ok clBlk rfl w (gOne_held ho rfl)
theorem runEnd (s : ByteArray) : okRun (evCall Tryz.prog (xOne 120) 1000 60 34 [.pointer (some ⟨2, 0, none⟩), .int .i64 1] (stB [procZ, endC 0 0, leavC (.pointer (some ⟨0, 0, none⟩)) s (hearV (.pointer (some ⟨1, 0, none⟩)))]))
    (fun v σ => veq v (.tuple #[]) && objIs σ 0 procZ && objIs σ 1 (endC 1 1)) = true := by kernel_rfl
/-- What stands beside three blocks stays. -/
def Keeps (bs : List Nat) (w w' : World) : Prop := (w'.os = w.os ∧ w'.tape = w.tape ∧ w'.output = w.output) ∧ w.heap.size ≤ w'.heap.size ∧ ∀ r, r < w.heap.size → r ∉ bs → w'.heap[r]? = w.heap[r]?
theorem Keeps.of_led {w w' : World} {bs : List (Nat × Nat)} {σ' : St} {E' : Env} (h : Led w bs σ' E' w') : Keeps (bs.map Prod.fst) w w' :=
  ⟨h.rel.calm, h.rel.size, fun r hr hn => h.rel.frame r hr (kOf_false fun p hp e => hn (by rw [← e]; exact List.mem_map_of_mem hp))⟩
theorem Keeps.of_below {w w' : World} (h : Below w.heap.size w w') (bs : List Nat) : Keeps bs w w' := ⟨⟨h.os, h.tape, h.output⟩, h.size, fun r hr _ => h.block r hr⟩
theorem Keeps.below {bs : List Nat} {w w' w00 : World} (h : Keeps bs w w') (hb : Below w00.heap.size w00 w) (hge : ∀ r ∈ bs, w00.heap.size ≤ r) : Below w00.heap.size w00 w' :=
  ⟨h.1.1.trans hb.os, h.1.2.1.trans hb.tape, h.1.2.2.trans hb.output, Nat.le_trans hb.size h.2.1, fun k hk => by
    rw [h.2.2 k (by have := hb.size; omega) (fun hm => by have := hge k hm; omega)]; exact hb.block k hk⟩
theorem end_bad (p x l : Nat × Nat) (s : ByteArray) (w : World) (hE : NM.Env w) (hp : Has w p procZ) (hx : Has w x (endC 0 0)) (hl : Has w l (leavC (pt p) s (hearV (pt x)))) (hd : [p.1, x.1, l.1].Nodup) (hg : (0 : Nat) ∉ [p.1, x.1, l.1]) :
    Calls Tryz.prog 34 #[pt l, .int .i64 1] w fun e w' => e = .returned (.tuple #[]) ∧ Has w' p procZ ∧ Has w' x (endC 1 1) ∧ Keeps [p.1, x.1, l.1] w w' := by
  obtain ⟨o, m, ho, hm⟩ := gmax hE
  obtain ⟨v, σ', hrun, hf⟩ := okRun_spec (runEnd s)
  simp only [Bool.and_eq_true] at hf
  obtain ⟨⟨h1, h2⟩, h3⟩ := hf
  have h1 := veq_eq _ _ h1
  subst h1
  obtain ⟨_, _, _, h2⟩ := objIs_spec h2
  obtain ⟨_, _, _, h3⟩ := objIs_spec h3
  have hall : AllHas w (slotE [p, x, l]) [p, x, l] [procZ, endC 0 0, leavC (.pointer (some ⟨0, 0, none⟩)) s (hearV (.pointer (some ⟨1, 0, none⟩)))] := ⟨hp, hx, hl, trivial⟩
  have hG : Held (gOne 0 o) (kOf [p, x, l]) w := gOne_held ho (kOf_false fun q hq e => hg (by rw [← e]; exact List.mem_map_of_mem (f := Prod.fst) hq))
  refine (led_call (oneX hm) mix_ok (by simp) rfl hall hd ?_ hG ?_ hrun).mono ?_
  · intro cs hcs v hv
    simp only [List.mem_cons, List.not_mem_nil, or_false] at hcs
    rcases hcs with rfl | rfl | rfl <;> simp only [procZ, endC, leavC, List.mem_cons, List.not_mem_nil, or_false] at hv <;> rcases hv with rfl | rfl | rfl | rfl | rfl | rfl | rfl | rfl | rfl | rfl | rfl <;> simp [ok, okA, okL, Value.oneCell']
  · intro v hv
    simp only [List.mem_cons, List.not_mem_nil, or_false] at hv
    rcases hv with rfl | rfl <;> simp [ok]
  · rintro e w' ⟨E', rfl, hled, _⟩
    exact ⟨rfl, hled.has (i := 0) rfl h2, hled.has (i := 1) rfl h3, Keeps.of_led hled⟩
end Go.Proofs.YtkldglhihfjclaaGreatDoor
