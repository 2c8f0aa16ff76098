/- Package block: how a block lies in memory; its addresses. -/
import Derived.Test.YtgodmnpcedfdcaaBkNm
import Derived.Test.YtgodmnpcedfdcaaBkBtOnes
import Derived.Test.YtgodmnpcedfdcaaRcNet
import Derived.Deep.MidRow
import Derived.Deep.WholeRow
import Derived.Deep.Cut
import Derived.Deep.DeepCutAuto
namespace Go.Proofs.Ytgodmnpcedfdcaa
open Go.RowKit Go.Maps
/-- A block: its address, whose it is, its slots, which are free, its attributes. -/
structure BlkS where
  addr : Int
  aff : ByteArray
  sl : List Int
  free : List Int
  attrs : List (ByteArray × ByteArray)
def blkL (b : BlkS) (fv av : Value) : List Value := .int .u32 b.addr :: .string b.aff :: (b.sl.map (Value.int .u8) ++ [fv, av])
/-- A row of attributes. -/
def SeesA (w : World) (v : Value) (L : List (ByteArray × ByteArray)) : Prop :=
  ∃ (ao : Option Addr) (c : Nat), v = .slice ao L.length c ∧ L.length ≤ c ∧ (ao = none → L = []) ∧ ∀ a, ao = some a → ∀ i p, L[i]? = some p → w.cell? (a.add (i * 2)) = some (.string p.1) ∧ w.cell? ((a.add (i * 2)).add 1) = some (.string p.2)
theorem SeesA.keep {w w' : World} {v : Value} {L : List (ByteArray × ByteArray)} (h : SeesA w v L) (hb : ∀ d, v.ownBlock = some d → d < w.heap.size → w'.heap[d]? = w.heap[d]?) : SeesA w' v L := by
  obtain ⟨ao, c, rfl, hl, hn, hc⟩ := h
  refine ⟨ao, c, rfl, hl, hn, fun a ha i p hp => ?_⟩
  obtain ⟨h1, h2⟩ := hc a ha i p hp
  have hlt := cell_lt8 h1
  rw [add_block] at hlt
  have hk := hb a.block (by rw [ha]; rfl) hlt
  have e : ∀ q : Addr, q.block = a.block → w'.cell? q = w.cell? q := fun q hq => by simp [World.cell?, hq, hk]
  exact ⟨(e _ (add_block _ _)).trans h1, (e _ (by rw [add_block, add_block])).trans h2⟩
theorem SeesA.below {w w' : World} {v : Value} {L : List (ByteArray × ByteArray)} (h : SeesA w v L) (hb : Below w.heap.size w w') : SeesA w' v L := h.keep (fun d _ hd => hb.block d hd)
def BWf (b : BlkS) : Prop := (0 ≤ b.addr ∧ b.addr < 4294967296) ∧ b.sl.length = 64 ∧ okB b.sl ∧ okB b.free ∧ b.aff.size ≤ maxLen ∧ b.free.length ≤ maxLen ∧ b.attrs.length ≤ maxLen ∧ ∀ p ∈ b.attrs, p.1.size ≤ maxLen ∧ p.2.size ≤ maxLen
/-- These cells are a block's. -/
def BlkIs (w : World) (cs : Array Value) (b : BlkS) : Prop := ∃ fv av, cs = (blkL b fv av).toArray ∧ Sees w fv b.free ∧ SeesA w av b.attrs ∧ BWf b
theorem BlkIs.below {w w' : World} {cs : Array Value} {b : BlkS} (h : BlkIs w cs b) (hb : Below w.heap.size w w') : BlkIs w' cs b := by
  obtain ⟨fv, av, e, h1, h2, h3⟩ := h
  exact ⟨fv, av, e, h1.keep hb, h2.below hb, h3⟩
theorem blkL_len (b : BlkS) (h : b.sl.length = 64) (fv av : Value) : (blkL b fv av).length = 68 := by
  unfold blkL
  simp [h]
/-- A variable that holds a block. -/
def BlkAt (w : World) (g : Nat) (b : BlkS) (fv av : Value) : Prop := w.heap[g]? = some (.cells (blkL b fv av).toArray 32 (0, 0))
theorem BlkAt.addr {w : World} {g : Nat} {b : BlkS} {fv av : Value} (h : BlkAt w g b fv av) : w.cell? ⟨g, 0, none⟩ = some (.int .u32 b.addr) := by
  have h' : w.heap[g]? = some (.cells (blkL b fv av).toArray 32 (0, 0)) := h
  simp [World.cell?, h', blkL]
theorem BlkAt.aff {w : World} {g : Nat} {b : BlkS} {fv av : Value} (h : BlkAt w g b fv av) : w.cell? ⟨g, 1, none⟩ = some (.string b.aff) := by
  have h' : w.heap[g]? = some (.cells (blkL b fv av).toArray 32 (0, 0)) := h
  simp [World.cell?, h', blkL]
theorem BlkAt.free {w : World} {g : Nat} {b : BlkS} {fv av : Value} (h : BlkAt w g b fv av) (hl : b.sl.length = 64) : w.cell? ⟨g, 66, none⟩ = some fv := by
  have h' : w.heap[g]? = some (.cells (blkL b fv av).toArray 32 (0, 0)) := h
  have e : (blkL b fv av)[66]? = some fv := by
    unfold blkL
    rw [List.getElem?_cons_succ, List.getElem?_cons_succ, List.getElem?_append_right (by simp [hl])]
    simp [hl]
  simp [World.cell?, h', e]
theorem BlkAt.attrs {w : World} {g : Nat} {b : BlkS} {fv av : Value} (h : BlkAt w g b fv av) (hl : b.sl.length = 64) : w.cell? ⟨g, 67, none⟩ = some av := by
  have h' : w.heap[g]? = some (.cells (blkL b fv av).toArray 32 (0, 0)) := h
  have e : (blkL b fv av)[67]? = some av := by
    unfold blkL
    rw [List.getElem?_cons_succ, List.getElem?_cons_succ, List.getElem?_append_right (by simp [hl])]
    simp [hl]
  simp [World.cell?, h', e]
theorem BlkAt.slot {w : World} {g : Nat} {b : BlkS} {fv av : Value} (h : BlkAt w g b fv av) {i : Nat} {x : Int} (hx : b.sl[i]? = some x) : w.cell? ⟨g, i + 2, none⟩ = some (.int .u8 x) := by
  have h' : w.heap[g]? = some (.cells (blkL b fv av).toArray 32 (0, 0)) := h
  have hi : i < b.sl.length := (List.getElem?_eq_some_iff.1 hx).1
  have e : (blkL b fv av)[i + 2]? = some (.int .u8 x) := by
    unfold blkL
    rw [List.getElem?_cons_succ, List.getElem?_cons_succ, List.getElem?_append_left (by simpa using hi), List.getElem?_map, hx]
    rfl
  simp [World.cell?, h', e]
theorem BlkAt.slots {w : World} {g : Nat} {b : BlkS} {fv av : Value} (h : BlkAt w g b fv av) : w.rangeAt g 2 (b.sl.map (Value.int .u8)) := fun j v hv => by
  rw [List.getElem?_map] at hv
  cases hx : b.sl[j]? with
  | none => rw [hx] at hv; cases hv
  | some x =>
    rw [hx] at hv
    obtain rfl := Option.some.inj hv
    rw [show 2 + j = j + 2 by omega]
    exact h.slot hx
theorem BlkAt.whole {w : World} {g : Nat} {b : BlkS} {fv av : Value} (h : BlkAt w g b fv av) : w.rangeAt g 0 (blkL b fv av) := fun j v hv => by
  have h' : w.heap[g]? = some (.cells (blkL b fv av).toArray 32 (0, 0)) := h
  rw [Nat.zero_add]
  simp [World.cell?, h', hv]
theorem infoB : (Try.prog.info? 32).map (·.size) = some 68 := by kernel_rfl
theorem info64 : (Try.prog.info? 23).map (·.size) = some 64 := by kernel_rfl
theorem loadB {w : World} {g : Nat} {b : BlkS} {fv av : Value} (h : BlkAt w g b fv av) (hl : b.sl.length = 64) : (Instr.loadAt 32 (.pointer (some ⟨g, 0, none⟩))).run Try.prog w = .ok (.agg (blkL b fv av).toArray) w :=
  run_loadAt_mid w g 0 32 (blkL b fv av) _ h.whole Try.underlying32 rfl (by rw [infoB, blkL_len b hl])
theorem load64 {w : World} {g : Nat} {b : BlkS} {fv av : Value} (h : BlkAt w g b fv av) (hl : b.sl.length = 64) : (Instr.loadAt 23 (.pointer (some ⟨g, 2, none⟩))).run Try.prog w = .ok (.agg (b.sl.map (Value.int .u8)).toArray) w :=
  run_loadAt_mid w g 2 23 (b.sl.map (Value.int .u8)) _ h.slots Try.underlying23 rfl (by rw [info64, List.length_map, hl])
theorem BlkAt.new (w : World) (b : BlkS) (fv av : Value) : BlkAt (w.alloc (.cells (blkL b fv av).toArray 32)) w.heap.size b fv av := heap_alloc_new w _
section
variable {ops : Array Oper} {rest : List Oper} {o : Oper} {a : Act} {w : World} {Q : Exit → Act → World → Prop} {g : Nat} {b : BlkS} {fv av : Value}
/-- A block read whole. -/
theorem wpLdB (hgd : o.guard = none) (x : Operand) (ho : o.op = .load 32 x) (hx : a.eval x = .pointer (some ⟨g, 0, none⟩)) (h : BlkAt w g b fv av) (hl : b.sl.length = 64)
    (hK : wpList Try.prog ops Q rest (a.put o.dst (.agg (blkL b fv av).toArray)) w) : wpList Try.prog ops Q (o :: rest) a w :=
  wpList_load_mid hgd _ x ho g 0 hx _ _ h.whole Try.underlying32 rfl (by rw [infoB, blkL_len b hl]) hK
/-- Its slots read whole. -/
theorem wpLd64 (hgd : o.guard = none) (x : Operand) (ho : o.op = .load 23 x) (hx : a.eval x = .pointer (some ⟨g, 2, none⟩)) (h : BlkAt w g b fv av) (hl : b.sl.length = 64)
    (hK : wpList Try.prog ops Q rest (a.put o.dst (.agg (b.sl.map (Value.int .u8)).toArray)) w) : wpList Try.prog ops Q (o :: rest) a w :=
  wpList_load_mid hgd _ x ho g 2 hx _ _ h.slots Try.underlying23 rfl (by rw [info64, List.length_map, hl]) hK
end
set_option maxRecDepth 100000 in
theorem addrOf_any (b : BlkS) (fv av : Value) (i : Int) (w : World) :
    Calls Try.prog 49 #[.agg (blkL b fv av).toArray, .int .i64 i] w fun e w' => e = .returned (.int .u32 (IntKind.u32.wrap (b.addr + IntKind.u32.wrap i))) ∧ Below w.heap.size w w' := by
  obtain ⟨w1, hw1⟩ : ∃ w1, w1 = w.alloc (.cells (blkL b fv av).toArray 32) := ⟨_, rfl⟩
  have hx : BlkAt w1 w.heap.size b fv av := by rw [hw1]; exact BlkAt.new w b fv av
  have hb : Below w.heap.size w w1 := by rw [hw1]; exact belNew w _
  have c0 := hx.addr
  have HB := Lib.hid hb
  clear hx hb
  go_enter Try.func49, Try.ntmps49
  go_upto_region 1 with fail
  change Code.wp _ _ _ _ (w.alloc (.cells (blkL b fv av).toArray 32))
  rw [← hw1]
  clear hw1
  go_wp2_with fail
  go_ret
  exact ⟨rfl, HB.out⟩
end Go.Proofs.Ytgodmnpcedfdcaa
