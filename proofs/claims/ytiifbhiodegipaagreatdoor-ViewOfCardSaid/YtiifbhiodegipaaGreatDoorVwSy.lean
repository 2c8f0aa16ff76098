/- The laws of view: does a view say what a record does. Made by g_vwsy.py. -/
import Derived.ProofKit
import Derived.OpenShut
import Derived.ChangeSlices
import Derived.Carry
import Derived.Deep.SlicePairs
import Derived.SizedLaws
import Derived.Test.YtiifbhiodegipaaGreatDoorSq
import Derived.Test.YtiifbhiodegipaaGreatDoorVwMt
import Derived.Test.YtiifbhiodegipaaGreatDoorBrR
import Derived.Test.YtiifbhiodegipaaGreatDoorHnSet
import Derived.Deep.Cut
namespace Go.Proofs.YtiifbhiodegipaaGreatDoor
open Go.RowKit
theorem Addr.add_zero18 (a : Addr) : a.add 0 = a := by unfold Addr.add; rfl
theorem vcellsS {w : World} {g : Nat} {x0 x1 x2 x3 x4 : Value} {t : TypeId} (h : w.heap[g]? = some (.cells #[x0, x1, x2, x3, x4] t (0, 0))) : w.cell? ⟨g, 0, none⟩ = some x0 ∧ w.cell? ⟨g, 1, none⟩ = some x1 ∧ w.cell? ⟨g, 2, none⟩ = some x2 ∧ w.cell? ⟨g, 3, none⟩ = some x3 ∧ w.cell? ⟨g, 4, none⟩ = some x4 := by
  refine ⟨?_, ?_, ?_, ?_, ?_⟩ <;> simp [World.cell?, h]
set_option maxRecDepth 100000 in
set_option maxHeartbeats 8000000 in
theorem saysLk {po bo : Option Addr} {pn pc bn bc ma mh mn : Nat} (i : Int) (w : World) : Calls Tryz.prog 12 #[(.agg #[.slice po pn pc, .slice bo bn bc, .map (some ma), .map (some mh), .map (some mn)]), (.agg #[.int .i64 6, .string ⟨#[]⟩, .int .u32 0, .int .u32 0, .int .i64 0, .bool false, .int .u32 0, .string ⟨#[]⟩, NS, NS, NS, .int .i64 0, NS, .bool false]), .int .i64 i] w fun e w' => e = .returned (.bool true) ∧ Below w.heap.size w w' := by
  obtain ⟨w1, hW⟩ : ∃ w1, w1 = (w.alloc (.cells #[.slice po pn pc, .slice bo bn bc, .map (some ma), .map (some mh), .map (some mn)] 30)).alloc (.cells #[.int .i64 6, .string ⟨#[]⟩, .int .u32 0, .int .u32 0, .int .i64 0, .bool false, .int .u32 0, .string ⟨#[]⟩, NS, NS, NS, .int .i64 0, NS, .bool false] TRec) := ⟨_, rfl⟩
  obtain ⟨hb0, hA, hB, hsz⟩ := two_newB w (.cells #[.slice po pn pc, .slice bo bn bc, .map (some ma), .map (some mh), .map (some mn)] 30) (.cells #[.int .i64 6, .string ⟨#[]⟩, .int .u32 0, .int .u32 0, .int .i64 0, .bool false, .int .u32 0, .string ⟨#[]⟩, NS, NS, NS, .int .i64 0, NS, .bool false] TRec)
  rw [← hW] at hb0 hA hB hsz
  have HW := Lib.hid hW
  have HB0 := Lib.hid hb0
  obtain ⟨v0, v1, v2, v3, v4⟩ := vcellsS hA
  obtain ⟨r0, r1, r2, r3, r4, r5, r6, r7, r8, r9, r10, r11, r12, r13⟩ := cell14 hB
  clear hW hb0 hA hB hsz
  go_enter Tryz.func12, Tryz.ntmps12
  go_upto_region 1 with fail
  change Code.wp _ _ _ _ ((w.alloc (.cells #[.slice po pn pc, .slice bo bn bc, .map (some ma), .map (some mh), .map (some mn)] 30)).alloc (.cells #[.int .i64 6, .string ⟨#[]⟩, .int .u32 0, .int .u32 0, .int .i64 0, .bool false, .int .u32 0, .string ⟨#[]⟩, NS, NS, NS, .int .i64 0, NS, .bool false] TRec))
  rw [← HW.out]
  clear HW
  go_wp2_with fail
  go_ret
  exact ⟨rfl, HB0.out⟩
theorem zeroI18 (w : World) : (zeroValue 3).run Tryz.prog w = .ok (.int .i64 0) w := by kernel_rfl
theorem zeroB18 (w : World) : (zeroValue 4).run Tryz.prog w = .ok (.bool false) w := by kernel_rfl
theorem zeroH18 (w : World) : (zeroValue 101).run Tryz.prog w = .ok (.agg #[.slice none 0 0]) w := by kernel_rfl
set_option maxRecDepth 100000 in
set_option maxHeartbeats 8000000 in
theorem saysAf {po bo : Option Addr} {pn pc bn bc ma mh mn : Nat} {m : Nat} {fs : List VM.Ent} (n : ByteArray) (a st : Int) (i : Int) (w : World) (hm : VM.MapIs TAff w ma m fs) (h1 : n.size ≤ maxLen) (h2 : (Lit.int .u32 a).wf = true) (hg : VM.getE fs (.string (keyF n a)) = some (.int .i64 st)) : Calls Tryz.prog 12 #[(.agg #[.slice po pn pc, .slice bo bn bc, .map (some ma), .map (some mh), .map (some mn)]), (.agg #[.int .i64 3, .string n, .int .u32 a, .int .u32 0, .int .i64 0, .bool false, .int .u32 0, .string ⟨#[]⟩, NS, NS, NS, .int .i64 st, NS, .bool false]), .int .i64 i] w fun e w' => e = .returned (.bool true) ∧ Below w.heap.size w w' := by
  obtain ⟨w1, hW⟩ : ∃ w1, w1 = (w.alloc (.cells #[.slice po pn pc, .slice bo bn bc, .map (some ma), .map (some mh), .map (some mn)] 30)).alloc (.cells #[.int .i64 3, .string n, .int .u32 a, .int .u32 0, .int .i64 0, .bool false, .int .u32 0, .string ⟨#[]⟩, NS, NS, NS, .int .i64 st, NS, .bool false] TRec) := ⟨_, rfl⟩
  obtain ⟨hb0, hA, hB, hsz⟩ := two_newB w (.cells #[.slice po pn pc, .slice bo bn bc, .map (some ma), .map (some mh), .map (some mn)] 30) (.cells #[.int .i64 3, .string n, .int .u32 a, .int .u32 0, .int .i64 0, .bool false, .int .u32 0, .string ⟨#[]⟩, NS, NS, NS, .int .i64 st, NS, .bool false] TRec)
  rw [← hW] at hb0 hA hB hsz
  have HW := Lib.hid hW
  have HB0 := Lib.hid hb0
  obtain ⟨v0, v1, v2, v3, v4⟩ := vcellsS hA
  obtain ⟨r0, r1, r2, r3, r4, r5, r6, r7, r8, r9, r10, r11, r12, r13⟩ := cell14 hB
  clear hW hb0 hA hB hsz
  have hlk := (hm.below HB0.out).look keyedAf Tryz.underlying26 (zeroI18 w1) (keyAf h1 h2) true
  rw [hg] at hlk
  simp only [if_true, Option.getD_some, Option.isSome_some] at hlk
  clear hm h1 h2 hg
  go_enter Tryz.func12, Tryz.ntmps12
  go_upto_region 1 with fail
  change Code.wp _ _ _ _ ((w.alloc (.cells #[.slice po pn pc, .slice bo bn bc, .map (some ma), .map (some mh), .map (some mn)] 30)).alloc (.cells #[.int .i64 3, .string n, .int .u32 a, .int .u32 0, .int .i64 0, .bool false, .int .u32 0, .string ⟨#[]⟩, NS, NS, NS, .int .i64 st, NS, .bool false] TRec))
  rw [← HW.out]
  clear HW
  go_wp2_with fail
  go_ret
  exact ⟨rfl, HB0.out⟩
set_option maxRecDepth 100000 in
set_option maxHeartbeats 8000000 in
theorem saysNd {po bo : Option Addr} {pn pc bn bc ma mh mn : Nat} {m : Nat} {fs : List VM.Ent} (n : ByteArray) (g : Bool) (i : Int) (w : World) (hm : VM.MapIs TStr w mn m fs) (h1 : n.size ≤ maxLen) (hg : VM.getE fs (keyL n) = some (.bool g)) : Calls Tryz.prog 12 #[(.agg #[.slice po pn pc, .slice bo bn bc, .map (some ma), .map (some mh), .map (some mn)]), (.agg #[.int .i64 5, .string n, .int .u32 0, .int .u32 0, .int .i64 0, .bool false, .int .u32 0, .string ⟨#[]⟩, NS, NS, NS, .int .i64 0, NS, .bool g]), .int .i64 i] w fun e w' => e = .returned (.bool true) ∧ Below w.heap.size w w' := by
  obtain ⟨w1, hW⟩ : ∃ w1, w1 = (w.alloc (.cells #[.slice po pn pc, .slice bo bn bc, .map (some ma), .map (some mh), .map (some mn)] 30)).alloc (.cells #[.int .i64 5, .string n, .int .u32 0, .int .u32 0, .int .i64 0, .bool false, .int .u32 0, .string ⟨#[]⟩, NS, NS, NS, .int .i64 0, NS, .bool g] TRec) := ⟨_, rfl⟩
  obtain ⟨hb0, hA, hB, hsz⟩ := two_newB w (.cells #[.slice po pn pc, .slice bo bn bc, .map (some ma), .map (some mh), .map (some mn)] 30) (.cells #[.int .i64 5, .string n, .int .u32 0, .int .u32 0, .int .i64 0, .bool false, .int .u32 0, .string ⟨#[]⟩, NS, NS, NS, .int .i64 0, NS, .bool g] TRec)
  rw [← hW] at hb0 hA hB hsz
  have HW := Lib.hid hW
  have HB0 := Lib.hid hb0
  obtain ⟨v0, v1, v2, v3, v4⟩ := vcellsS hA
  obtain ⟨r0, r1, r2, r3, r4, r5, r6, r7, r8, r9, r10, r11, r12, r13⟩ := cell14 hB
  clear hW hb0 hA hB hsz
  have hlk := (hm.below HB0.out).look keyedStr Tryz.underlying28 (zeroB18 w1) (keyStr h1) true
  rw [hg] at hlk
  simp only [if_true, Option.getD_some, Option.isSome_some] at hlk
  clear hm h1 hg
  go_enter Tryz.func12, Tryz.ntmps12
  go_upto_region 1 with fail
  change Code.wp _ _ _ _ ((w.alloc (.cells #[.slice po pn pc, .slice bo bn bc, .map (some ma), .map (some mh), .map (some mn)] 30)).alloc (.cells #[.int .i64 5, .string n, .int .u32 0, .int .u32 0, .int .i64 0, .bool false, .int .u32 0, .string ⟨#[]⟩, NS, NS, NS, .int .i64 0, NS, .bool g] TRec))
  rw [← HW.out]
  clear HW
  cases g with
  | false =>
    go_wp2_with fail
    go_ret
    exact ⟨rfl, HB0.out⟩
  | true =>
    go_wp2_with fail
    go_ret
    exact ⟨rfl, HB0.out⟩
theorem eqlP18 (a b : Int) (o : Bool) (w : World) : (binOp .eql 45 (.agg #[.int .u32 a, .int .i64 b, .bool o]) (.agg #[.int .u32 a, .int .i64 b, .bool o])).run Tryz.prog w = .ok (.bool true) w := by
  have hS : Tryz.prog.underlying 45 = some (.struct (Tryz.prog.fieldsOf 45)) := by kernel_rfl
  have hp : Tryz.prog.stoodInHeld 45 = false := by kernel_rfl
  have hS2 : Tryz.prog.underlying 43 = some (.struct (Tryz.prog.fieldsOf 43)) := by kernel_rfl
  have hp2 : Tryz.prog.stoodInHeld 43 = false := by kernel_rfl
  have u3 := Tryz.underlying41
  have a3 := Tryz.isAgg41
  have z3 := Tryz.sizeOf41
  have u4 := Tryz.underlying3
  have a4 := Tryz.isAgg3
  have z4 := Tryz.sizeOf3
  have u5 := Tryz.underlying4
  have a5 := Tryz.isAgg4
  have z5 := Tryz.sizeOf4
  have a6 := Tryz.isAgg43
  have z6 := Tryz.sizeOf43
  have hn : ∀ w : World, (Op.equalIn 9999 43 (.agg #[.int .u32 a, .int .i64 b]) (.agg #[.int .u32 a, .int .i64 b])).run Tryz.prog w = .ok true w := fun w => by
    rw [show (9999 : Nat) = 9998 + 1 from rfl, run_equalIn_agg w 9998 43 _ _ hS2 hp2]
    simp only [Program.fieldsOf, Tryz.underlying43]
    go_simp
  rw [run_eql_struct, show (10000 : Nat) = 9999 + 1 from rfl, run_equalIn_agg w 9999 45 _ _ hS hp]
  simp only [Program.fieldsOf, Tryz.underlying45]
  go_simp
set_option maxRecDepth 100000 in
set_option maxHeartbeats 8000000 in
theorem saysPl {bo : Option Addr} {pn pc bn bc ma mh mn gq B : Nat} {X : List P3} (a b : Int) (o : Bool) (i : Nat) (w : World) (hr : RowG 64 3 encP w B (.slice (some ⟨gq, 0, none⟩) pn pc) X) (hi : X[i]? = some (a, b, o)) (hl : X.length ≤ 1000) : Calls Tryz.prog 12 #[(.agg #[.slice (some ⟨gq, 0, none⟩) pn pc, .slice bo bn bc, .map (some ma), .map (some mh), .map (some mn)]), (.agg #[.int .i64 1, .string ⟨#[]⟩, .int .u32 0, .int .u32 a, .int .i64 b, .bool o, .int .u32 0, .string ⟨#[]⟩, NS, NS, NS, .int .i64 0, NS, .bool false]), .int .i64 i] w fun e w' => e = .returned (.bool true) ∧ Below w.heap.size w w' := by
  obtain ⟨po, hpo⟩ : ∃ po : Addr, po = ⟨gq, 0, none⟩ := ⟨_, rfl⟩
  have hn : pn = X.length := by
    obtain ⟨_, _, e⟩ := hr.slice
    cases e
    rfl
  have hilt := (List.getElem?_eq_some_iff.1 hi).1
  obtain ⟨w1, hW⟩ : ∃ w1, w1 = (w.alloc (.cells #[.slice (some po) pn pc, .slice bo bn bc, .map (some ma), .map (some mh), .map (some mn)] 30)).alloc (.cells #[.int .i64 1, .string ⟨#[]⟩, .int .u32 0, .int .u32 a, .int .i64 b, .bool o, .int .u32 0, .string ⟨#[]⟩, NS, NS, NS, .int .i64 0, NS, .bool false] TRec) := ⟨_, rfl⟩
  obtain ⟨hb0, hA, hB, hsz⟩ := two_newB w (.cells #[.slice (some po) pn pc, .slice bo bn bc, .map (some ma), .map (some mh), .map (some mn)] 30) (.cells #[.int .i64 1, .string ⟨#[]⟩, .int .u32 0, .int .u32 a, .int .i64 b, .bool o, .int .u32 0, .string ⟨#[]⟩, NS, NS, NS, .int .i64 0, NS, .bool false] TRec)
  rw [← hW] at hb0 hA hB hsz
  have HW := Lib.hid hW
  have HB0 := Lib.hid hb0
  obtain ⟨v0, v1, v2, v3, v4⟩ := vcellsS hA
  obtain ⟨r0, r1, r2, r3, r4, r5, r6, r7, r8, r9, r10, r11, r12, r13⟩ := cell14 hB
  clear hW hb0 hA hB hsz
  have hrg := row_range encP_len (hr.below HB0.out) hi
  have k0 := hrg 0 (.int .u32 a) rfl
  have k1 := hrg 1 (.int .i64 b) rfl
  have k2 := hrg 2 (.bool o) rfl
  have ea : ∀ j, (⟨gq, i * 3 + j, none⟩ : Addr) = (po.add (i * 3)).add j := fun j => by rw [hpo, Addr.add_mid, Addr.add_mid, Nat.zero_add]
  rw [ea, Addr.add_zero18] at k0
  rw [ea] at k1 k2
  have q0 : w1.cell? (po.add (i * 3)) = some (.int .u32 a) := k0
  have q1 : w1.cell? { block := (po.add (i * 3)).block, off := (po.add (i * 3)).off + 1 } = some (.int .i64 b) := ofsV (by omega) k1
  have q2 : w1.cell? { block := (po.add (i * 3)).block, off := (po.add (i * 3)).off + 2 } = some (.bool o) := ofsV (by omega) k2
  have b0 : (0 : Int) ≤ (i : Int) := by omega
  have b1 : (i : Int) < (pn : Int) := by omega
  have b2 : (i : Int) < 1000 := by omega
  have heq := eqlP18 a b o
  rw [← hpo]
  clear hr hi hl hn hilt hrg k0 k1 k2 ea hpo
  go_enter Tryz.func12, Tryz.ntmps12
  go_upto_region 1 with fail
  change Code.wp _ _ _ _ ((w.alloc (.cells #[.slice (some po) pn pc, .slice bo bn bc, .map (some ma), .map (some mh), .map (some mn)] 30)).alloc (.cells #[.int .i64 1, .string ⟨#[]⟩, .int .u32 0, .int .u32 a, .int .i64 b, .bool o, .int .u32 0, .string ⟨#[]⟩, NS, NS, NS, .int .i64 0, NS, .bool false] TRec))
  rw [← HW.out]
  clear HW
  go_upto_region 3 with fail
  refine wp_region_held_drew (S := (fun W => Below w1.heap.size w1 W)) (by kernel_rfl) ?_ (fun r0 => ?_)
  · exact ⟨rfl, rfl, rfl, Nat.le_refl _, fun _ _ => rfl⟩
  refine tk 0 rfl ?_
  try simp only [Act.put, qA, qB, qC, qD, qE, qF]
  refine tq (v := ?_) 1 rfl ?_ ?_
  rotate_left
  · intro wS hSw
    (try dsimp only at hSw)
    have v0 := bcell hSw v0
    have q0 := bcell hSw q0
    have q1 := bcell hSw q1
    have q2 := bcell hSw q2
    have r3 := bcell hSw r3
    have r4 := bcell hSw r4
    have r5 := bcell hSw r5
    go_simp
    first | done | with_reducible rfl
  try simp only [Act.put, qA, qB, qC, qD, qE, qF]
  refine tk 2 rfl ?_
  try simp only [Act.put, qA, qB, qC, qD, qE, qF]
  refine tk 3 rfl ?_
  try simp only [Act.put, qA, qB, qC, qD, qE, qF]
  refine tq (v := ?_) 4 rfl ?_ ?_
  rotate_left
  · intro wS hSw
    (try dsimp only at hSw)
    have v0 := bcell hSw v0
    have q0 := bcell hSw q0
    have q1 := bcell hSw q1
    have q2 := bcell hSw q2
    have r3 := bcell hSw r3
    have r4 := bcell hSw r4
    have r5 := bcell hSw r5
    go_simp
    first | done | with_reducible rfl
  try simp only [Act.put, qA, qB, qC, qD, qE, qF]
  refine tk 6 rfl ?_
  try simp only [Act.put, qA, qB, qC, qD, qE, qF]
  refine tq (v := ?_) 7 rfl ?_ ?_
  rotate_left
  · intro wS hSw
    (try dsimp only at hSw)
    have v0 := bcell hSw v0
    have q0 := bcell hSw q0
    have q1 := bcell hSw q1
    have q2 := bcell hSw q2
    have r3 := bcell hSw r3
    have r4 := bcell hSw r4
    have r5 := bcell hSw r5
    go_simp
    first | done | with_reducible rfl
  try simp only [Act.put, qA, qB, qC, qD, qE, qF]
  refine wpAnyH_ready (rs := [5]) (by kernel_rfl) (by simp) ?_
  refine AllReadyH.cons rfl (fun K hK => ?_) AllReadyH.nil
  go_simp
  refine (RC.plain13_any a b o _).mono ?_; rintro x w9 ⟨rfl, hb9⟩
  refine hK.out _ _ ?_ (fun r1 => ?_)
  · exact bel r0 hb9
  try simp only [Act.put, qA, qB, qC, qD, qE, qF]
  refine tk 8 rfl ?_
  try simp only [Act.put, qA, qB, qC, qD, qE, qF]
  refine tk 9 rfl ?_
  try simp only [Act.put, qA, qB, qC, qD, qE, qF]
  refine wpAnyH_done (by kernel_rfl) ?_ _
  go_wp2_with fail
  go_ret
  exact ⟨rfl, bel HB0.out r1⟩
theorem ldRowIf {ops : Array Oper} {S : World → Prop} {op : Oper} {a : Act} {T : TypeId} {g k n : Nat} {b : Addr} {L : List Value} (hw : Region.wanted op (yielded ops a.tmps) = true) (x : Operand) (ho : op.op = .load T x) (hb : b = ⟨g, 0, none⟩) (hx : a.eval x = .pointer (some (b.add k))) (hS : ∀ W, S W → W.rangeAt g k L) (hl : L.length = n) (hi : (Tryz.prog.info? T).map (·.size) = some n) {fs} (hT : Tryz.prog.underlying T = some (.struct fs)) :
    YieldsIf Tryz.prog ops S op (.agg L.toArray) a := by
  have e : b.add k = ⟨g, k, none⟩ := by rw [hb, Addr.add_mid, Nat.zero_add]
  rw [e] at hx
  exact yieldsIf_load_mid hw T x ho g k hx L _ hS hT rfl (by rw [hi, hl])
theorem rangeB {w W : World} {g k : Nat} {L : List Value} (h : w.rangeAt g k L) (hb : Below w.heap.size w W) : W.rangeAt g k L := fun j v hv => bcell hb (h j v hv)
theorem DocRet.sees18 {w w' : World} {b : BlkS} {v1 v2 v3 : Value} (h : DocRet w w' b v1 v2 v3) : DocSees w' b.sl b.free b.attrs v1 v2 v3 := by
  have h1 : RowI1 w' w.heap.size v1 b.sl := by have := h.slots; unfold OwnsI at this; rw [← flat_I1] at this; exact this
  have h2 : RowI1 w' w.heap.size v2 b.free := by have := h.free; unfold OwnsI at this; rw [← flat_I1] at this; exact this
  have h3 : RowG ERt 2 encA w' w.heap.size v3 b.attrs := h.attrs
  exact ⟨h1.sees (fun _ => rfl), h2.sees (fun _ => rfl), h3.sees (fun _ => rfl)⟩
set_option maxRecDepth 100000 in
set_option maxHeartbeats 8000000 in
theorem saysBl {po : Option Addr} {pn pc bn bc ma mh mn gq B C : Nat} {ids : Nat → Prop} {X : List BX} (b : BlkS) (y : BX) (s1 s2 s3 : Option Addr) (m1 c1 m2 c2 m3 c3 : Nat) (i : Nat) (w : World) (hr : RowG 59 68 encX w B (.slice (some ⟨gq, 0, none⟩) bn bc) X) (hi : X[i]? = some y) (hy : y.1 = b) (hl1 : X.length ≤ 1000) (hx : XOk w C ids y) (hwf : BWf b) (hrb : rightB b = true) (hds : DocSees w b.sl b.free b.attrs (.slice s1 m1 c1) (.slice s2 m2 c2) (.slice s3 m3 c3)) : Calls Tryz.prog 12 #[(.agg #[.slice po pn pc, .slice (some ⟨gq, 0, none⟩) bn bc, .map (some ma), .map (some mh), .map (some mn)]), (.agg #[.int .i64 2, .string ⟨#[]⟩, .int .u32 0, .int .u32 0, .int .i64 0, .bool false, .int .u32 b.addr, .string b.aff, .slice s1 m1 c1, .slice s2 m2 c2, .slice s3 m3 c3, .int .i64 0, NS, .bool false]), .int .i64 i] w fun e w' => e = .returned (.bool true) ∧ Below w.heap.size w w' := by
  obtain ⟨bo, hbo⟩ : ∃ bo : Addr, bo = ⟨gq, 0, none⟩ := ⟨_, rfl⟩
  have hn : bn = X.length := by
    obtain ⟨_, _, e⟩ := hr.slice
    cases e
    rfl
  have hilt := (List.getElem?_eq_some_iff.1 hi).1
  obtain ⟨w1, hW⟩ : ∃ w1, w1 = (w.alloc (.cells #[.slice po pn pc, .slice (some bo) bn bc, .map (some ma), .map (some mh), .map (some mn)] 30)).alloc (.cells #[.int .i64 2, .string ⟨#[]⟩, .int .u32 0, .int .u32 0, .int .i64 0, .bool false, .int .u32 b.addr, .string b.aff, .slice s1 m1 c1, .slice s2 m2 c2, .slice s3 m3 c3, .int .i64 0, NS, .bool false] TRec) := ⟨_, rfl⟩
  obtain ⟨hb0, hA, hB, hsz⟩ := two_newB w (.cells #[.slice po pn pc, .slice (some bo) bn bc, .map (some ma), .map (some mh), .map (some mn)] 30) (.cells #[.int .i64 2, .string ⟨#[]⟩, .int .u32 0, .int .u32 0, .int .i64 0, .bool false, .int .u32 b.addr, .string b.aff, .slice s1 m1 c1, .slice s2 m2 c2, .slice s3 m3 c3, .int .i64 0, NS, .bool false] TRec)
  rw [← hW] at hb0 hA hB hsz
  have HW := Lib.hid hW
  have HB0 := Lib.hid hb0
  obtain ⟨v0, v1, v2, v3, v4⟩ := vcellsS hA
  obtain ⟨r0, r1, r2, r3, r4, r5, r6, r7, r8, r9, r10, r11, r12, r13⟩ := cell14 hB
  clear hW hb0 hA hB hsz
  have hrg := row_range encX_len (hr.below HB0.out) hi
  obtain ⟨fv, hfv⟩ : ∃ fv, fv = slV y.2.1 := ⟨_, rfl⟩
  obtain ⟨av, hav⟩ : ∃ av, av = slV y.2.2 := ⟨_, rfl⟩
  have hl : b.sl.length = 64 := hwf.2.1
  rw [encX_eq hx.sl, hy, ← hfv, ← hav] at hrg
  have hf : Sees w1 fv b.free := by rw [hfv, ← hy]; exact hx.free.keep HB0.out
  have ha : SeesA w1 av b.attrs := by rw [hav, ← hy]; exact hx.attrs.below HB0.out
  have hfl := (right_free hrb).2.2
  have hal := (right_bd hwf hrb).2.2.1
  have hd1 := hds.below HB0.out
  have HPL : Hid (∀ W, Below w1.heap.size w1 W → Calls Tryz.prog 18 #[.agg (blkL b fv av).toArray] W fun e w' => ∃ f1 f2 f3 a1 a2 a3 p1 p2 p3, e = .returned (docV b.addr b.aff (.slice f1 f2 f3) (.slice a1 a2 a3) (.slice p1 p2 p3)) ∧ DocSees w' b.sl b.free b.attrs (.slice f1 f2 f3) (.slice a1 a2 a3) (.slice p1 p2 p3) ∧ Below W.heap.size W w') := Lib.hid (fun W hW => by
    refine (plain15_any b fv av W (hf.keep hW) (ha.below hW) hl hwf.2.2.1 hwf.2.2.2.1 (Nat.le_trans hfl (by decide)) (Nat.le_trans hal (by decide))).mono ?_
    rintro e w' ⟨u1, u2, u3, rfl, hd⟩
    have hs := hd.sees18
    obtain ⟨f1, f3, rfl⟩ := hs.slots.slice
    obtain ⟨a1, a3, rfl⟩ := hs.free.slice
    obtain ⟨p1, p3, rfl⟩ := hs.attrs.slice
    exact ⟨f1, _, f3, a1, _, a3, p1, _, p3, rfl, hs, hd.below⟩)
  have HSM : Hid (∀ W f1 f2 f3 a1 a2 a3 p1 p2 p3, DocSees W b.sl b.free b.attrs (.slice f1 f2 f3) (.slice a1 a2 a3) (.slice p1 p2 p3) → Below w1.heap.size w1 W → Calls Tryz.prog 17 #[docV b.addr b.aff (.slice f1 f2 f3) (.slice a1 a2 a3) (.slice p1 p2 p3), docV b.addr b.aff (.slice s1 m1 c1) (.slice s2 m2 c2) (.slice s3 m3 c3)] W fun e w' => e = .returned (.bool true) ∧ Below W.heap.size W w') := Lib.hid (fun W f1 f2 f3 a1 a2 a3 p1 p2 p3 hs hW =>
    refSame_yes b.addr b.aff _ _ _ _ _ _ b.sl b.free b.attrs W hs (hd1.below hW) (by rw [hl]; decide) (Nat.le_trans hfl (by decide)) (Nat.le_trans hal (by decide)))
  have HRG := Lib.hid hrg
  have HPO := Lib.hid hbo
  have b0 : (0 : Int) ≤ (i : Int) := by omega
  have b1 : (i : Int) < (bn : Int) := by omega
  have b2 : (i : Int) < 1000 := by omega
  rw [← hbo]
  clear hr hi hy hx hwf hrb hds hn hilt hrg hfv hav hf ha hfl hal hd1 hbo
  go_enter Tryz.func12, Tryz.ntmps12
  go_upto_region 1 with fail
  change Code.wp _ _ _ _ ((w.alloc (.cells #[.slice po pn pc, .slice (some bo) bn bc, .map (some ma), .map (some mh), .map (some mn)] 30)).alloc (.cells #[.int .i64 2, .string ⟨#[]⟩, .int .u32 0, .int .u32 0, .int .i64 0, .bool false, .int .u32 b.addr, .string b.aff, .slice s1 m1 c1, .slice s2 m2 c2, .slice s3 m3 c3, .int .i64 0, NS, .bool false] TRec))
  rw [← HW.out]
  clear HW
  go_upto_region 5 with fail
  refine wp_region_held_drew (S := (fun W => Below w1.heap.size w1 W)) (by kernel_rfl) ?_ (fun r0 => ?_)
  · exact ⟨rfl, rfl, rfl, Nat.le_refl _, fun _ _ => rfl⟩
  refine tk 0 rfl ?_
  try simp only [Act.put, qA, qB, qC, qD, qE, qF]
  refine tq (v := ?_) 1 rfl ?_ ?_
  rotate_left
  · intro wS hSw
    (try dsimp only at hSw)
    have v1 := bcell hSw v1
    have r6 := bcell hSw r6
    have r7 := bcell hSw r7
    have r8 := bcell hSw r8
    have r9 := bcell hSw r9
    have r10 := bcell hSw r10
    go_simp
    first | done | with_reducible rfl
  try simp only [Act.put, qA, qB, qC, qD, qE, qF]
  refine tk 2 rfl ?_
  try simp only [Act.put, qA, qB, qC, qD, qE, qF]
  refine tk 3 rfl ?_
  try simp only [Act.put, qA, qB, qC, qD, qE, qF]
  refine wpAnyH_take (i := 4) (v := _) rfl (by kernel_rfl) (by kernel_rfl) (by kernel_rfl) (fun _ _ _ h => h) (ldRowIf (T := 59) (b := bo) (k := i * 68) (L := blkL b fv av) (by rfl) _ rfl HPO.out rfl (fun W hW => rangeB HRG.out hW) (blkL_len b hl fv av) (by rw [infoB]) Tryz.underlying59) (by assumption) ?_
  try simp only [Act.put, qA, qB, qC, qD, qE, qF]
  refine tk 6 rfl ?_
  try simp only [Act.put, qA, qB, qC, qD, qE, qF]
  refine tq (v := ?_) 7 rfl ?_ ?_
  rotate_left
  · intro wS hSw
    (try dsimp only at hSw)
    have v1 := bcell hSw v1
    have r6 := bcell hSw r6
    have r7 := bcell hSw r7
    have r8 := bcell hSw r8
    have r9 := bcell hSw r9
    have r10 := bcell hSw r10
    go_simp
    first | done | with_reducible rfl
  try simp only [Act.put, qA, qB, qC, qD, qE, qF]
  refine wpAnyH_ready (rs := [5]) (by kernel_rfl) (by simp) ?_
  refine AllReadyH.cons rfl (fun K hK => ?_) AllReadyH.nil
  go_simp
  refine (HPL.out _ r0).mono ?_; rintro x w9 ⟨f1, f2, f3, a1, a2, a3, p1, p2, p3, rfl, hd9, hb9⟩
  refine hK.out _ _ ?_ (fun r1 => ?_)
  · exact bel r0 hb9
  try simp only [Act.put, qA, qB, qC, qD, qE, qF]
  refine wpAnyH_ready (rs := [8]) (by kernel_rfl) (by simp) ?_
  refine AllReadyH.cons rfl (fun K hK => ?_) AllReadyH.nil
  go_simp
  refine (HSM.out _ _ _ _ _ _ _ _ _ _ hd9 r1).mono ?_; rintro x w8 ⟨rfl, hb8⟩
  refine hK.out _ _ ?_ (fun r2 => ?_)
  · exact bel r1 hb8
  try simp only [Act.put, qA, qB, qC, qD, qE, qF]
  refine tk 9 rfl ?_
  try simp only [Act.put, qA, qB, qC, qD, qE, qF]
  refine wpAnyH_done (by kernel_rfl) ?_ _
  go_wp2_with fail
  go_ret
  exact ⟨rfl, bel HB0.out r2⟩
set_option maxRecDepth 100000 in
set_option maxHeartbeats 8000000 in
theorem saysHn {po bo : Option Addr} {pn pc bn bc ma mh mn : Nat} {m C : Nat} {ids : Nat → Prop} {H : List VM.Ent} (n : ByteArray) (Lc : List (Int × Int)) (v : Value) (s1 : Option Addr) (m1 c1 : Nat) (i : Int) (w : World) (hm : VM.MapIs TStr w mh m H) (h1 : n.size ≤ maxLen) (hg : VM.getE H (keyL n) = some v) (hv : HOk w C ids v Lc) (hl : Lc.length ≤ 1000000) (hds : HN.SeesC w (.slice s1 m1 c1) Lc) : Calls Tryz.prog 12 #[(.agg #[.slice po pn pc, .slice bo bn bc, .map (some ma), .map (some mh), .map (some mn)]), (.agg #[.int .i64 4, .string n, .int .u32 0, .int .u32 0, .int .i64 0, .bool false, .int .u32 0, .string ⟨#[]⟩, NS, NS, NS, .int .i64 0, .slice s1 m1 c1, .bool false]), .int .i64 i] w fun e w' => e = .returned (.bool true) ∧ Below w.heap.size w w' := by
  obtain ⟨w1, hW⟩ : ∃ w1, w1 = (w.alloc (.cells #[.slice po pn pc, .slice bo bn bc, .map (some ma), .map (some mh), .map (some mn)] 30)).alloc (.cells #[.int .i64 4, .string n, .int .u32 0, .int .u32 0, .int .i64 0, .bool false, .int .u32 0, .string ⟨#[]⟩, NS, NS, NS, .int .i64 0, .slice s1 m1 c1, .bool false] TRec) := ⟨_, rfl⟩
  obtain ⟨hb0, hA, hB, hsz⟩ := two_newB w (.cells #[.slice po pn pc, .slice bo bn bc, .map (some ma), .map (some mh), .map (some mn)] 30) (.cells #[.int .i64 4, .string n, .int .u32 0, .int .u32 0, .int .i64 0, .bool false, .int .u32 0, .string ⟨#[]⟩, NS, NS, NS, .int .i64 0, .slice s1 m1 c1, .bool false] TRec)
  rw [← hW] at hb0 hA hB hsz
  have HW := Lib.hid hW
  have HB0 := Lib.hid hb0
  obtain ⟨v0, v1, v2, v3, v4⟩ := vcellsS hA
  obtain ⟨r0, r1, r2, r3, r4, r5, r6, r7, r8, r9, r10, r11, r12, r13⟩ := cell14 hB
  clear hW hb0 hA hB hsz
  obtain ⟨⟨ho, hn, hc⟩, rfl, hsc, -⟩ := hv
  have hlk := (hm.below HB0.out).look keyedStr Tryz.underlying27 (zeroH18 w1) (keyStr h1) true
  rw [hg] at hlk
  simp only [if_true, Option.getD_some, Option.isSome_some] at hlk
  simp only [slV] at hlk
  have hsc : HN.SeesC w (.slice ho hn hc) Lc := hsc
  obtain ⟨w2, hw2⟩ : ∃ w2, w2 = w1.alloc (.cells #[.slice ho hn hc] 101) := ⟨_, rfl⟩
  have hb2 := belNew w1 (.cells #[.slice ho hn hc] 101)
  have h0 := hcell1 (heap_alloc_new w1 (.cells #[.slice ho hn hc] 101))
  rw [← hw2] at hb2 h0
  have HR2 := Lib.hid (bcell hb2 r12)
  have HB2 := Lib.hid (bel HB0.out hb2)
  have HW2 := Lib.hid hw2
  have HH0 := Lib.hid h0
  have HPL : Hid (∀ W, Below w2.heap.size w2 W → Calls Tryz.prog 30 #[.agg #[.slice ho hn hc]] W fun e w' => ∃ f1 f2 f3, e = .returned (.slice f1 f2 f3) ∧ HN.SeesC w' (.slice f1 f2 f3) Lc ∧ Below W.heap.size W w') := Lib.hid (fun W hW => by
    refine (HN.plain_any (.slice ho hn hc) Lc W ((hsc.below HB2.out).below hW) hl).mono ?_
    rintro e w' ⟨v', rfl, hr, hb⟩
    have hs := HN.RowE.sees hr
    obtain ⟨ao, c, rfl, -⟩ := id hs
    exact ⟨ao, _, c, rfl, hs, hb⟩)
  have HSM : Hid (∀ W f1 f2 f3, HN.SeesC W (.slice f1 f2 f3) Lc → Below w2.heap.size w2 W → Calls Tryz.prog 29 #[.slice f1 f2 f3, .slice s1 m1 c1] W fun e w' => e = .returned (.bool true) ∧ Below W.heap.size W w') := Lib.hid (fun W f1 f2 f3 hs hW => by
    have := HN.same_any (.slice f1 f2 f3) (.slice s1 m1 c1) Lc Lc W hs ((hds.below HB2.out).below hW) hl hl
    rwa [decide_eq_true rfl] at this)
  clear hm h1 hg hl hds hsc hw2 hb2 h0
  go_enter Tryz.func12, Tryz.ntmps12
  go_upto_region 1 with fail
  change Code.wp _ _ _ _ ((w.alloc (.cells #[.slice po pn pc, .slice bo bn bc, .map (some ma), .map (some mh), .map (some mn)] 30)).alloc (.cells #[.int .i64 4, .string n, .int .u32 0, .int .u32 0, .int .i64 0, .bool false, .int .u32 0, .string ⟨#[]⟩, NS, NS, NS, .int .i64 0, .slice s1 m1 c1, .bool false] TRec))
  rw [← HW.out]
  clear HW
  go_upto_region 11 with fail
  change Code.wp _ _ _ _ (w1.alloc (.cells #[.slice ho hn hc] 101))
  rw [← HW2.out]
  obtain ⟨gh, hgh⟩ : ∃ gh, gh = w1.heap.size := ⟨_, rfl⟩
  have h0 := HH0.out
  have r12 := HR2.out
  rw [← hgh] at h0 ⊢
  clear hgh HW2 HH0 HR2 hlk v0 v1 v2 v3 v4
  refine wp_region_held_drew (S := (fun W => Below w2.heap.size w2 W)) (by kernel_rfl) ?_ (fun r0 => ?_)
  · exact ⟨rfl, rfl, rfl, Nat.le_refl _, fun _ _ => rfl⟩
  refine tk 0 rfl ?_
  try simp only [Act.put, qA, qB, qC, qD, qE, qF]
  refine tk 1 rfl ?_
  try simp only [Act.put, qA, qB, qC, qD, qE, qF]
  refine tq (v := ?_) 2 rfl ?_ ?_
  rotate_left
  · intro wS hSw
    (try dsimp only at hSw)
    have h0 := bcell hSw h0
    have r12 := bcell hSw r12
    go_simp
    first | done | with_reducible rfl
  try simp only [Act.put, qA, qB, qC, qD, qE, qF]
  refine tk 4 rfl ?_
  try simp only [Act.put, qA, qB, qC, qD, qE, qF]
  refine tq (v := ?_) 5 rfl ?_ ?_
  rotate_left
  · intro wS hSw
    (try dsimp only at hSw)
    have h0 := bcell hSw h0
    have r12 := bcell hSw r12
    go_simp
    first | done | with_reducible rfl
  try simp only [Act.put, qA, qB, qC, qD, qE, qF]
  refine wpAnyH_ready (rs := [3]) (by kernel_rfl) (by simp) ?_
  refine AllReadyH.cons rfl (fun K hK => ?_) AllReadyH.nil
  go_simp
  refine (HPL.out _ r0).mono ?_; rintro x w9 ⟨f1, f2, f3, rfl, hd9, hb9⟩
  refine hK.out _ _ ?_ (fun r1 => ?_)
  · exact bel r0 hb9
  try simp only [Act.put, qA, qB, qC, qD, qE, qF]
  refine wpAnyH_ready (rs := [6]) (by kernel_rfl) (by simp) ?_
  refine AllReadyH.cons rfl (fun K hK => ?_) AllReadyH.nil
  go_simp
  refine (HSM.out _ _ _ _ hd9 r1).mono ?_; rintro x w8 ⟨rfl, hb8⟩
  refine hK.out _ _ ?_ (fun r2 => ?_)
  · exact bel r1 hb8
  try simp only [Act.put, qA, qB, qC, qD, qE, qF]
  refine tk 7 rfl ?_
  try simp only [Act.put, qA, qB, qC, qD, qE, qF]
  refine tk 8 rfl ?_
  try simp only [Act.put, qA, qB, qC, qD, qE, qF]
  refine wpAnyH_done (by kernel_rfl) ?_ _
  go_wp2_with fail
  go_ret
  exact ⟨rfl, bel HB2.out r2⟩
end Go.Proofs.YtiifbhiodegipaaGreatDoor
namespace Go.Proofs.YtiifbhiodegipaaGreatDoor
open Go.RowKit Go.Maps
section
open Go.ChangeShapes Go.WideShapes Go.ChangeAt
variable {H : Type} {enc : TypeId × Value → H} {P : Program} {w : World} {base : Nat} {held : Bool}
/-- A slice of structs: each element's cells, each field's own reading, and each element's datum. -/
theorem open_structsD {t e : TypeId} {fs : Array Field} {fuel : Nat} {cs : List Value} {x : DataW H × List MemPlace} (ht : P.underlying t = some (.slice e)) (he : P.underlying e = some (.struct fs))
    (h : DataW.trod enc P w base (fun _ => true) held fuel t cs = some x) :
    cs = [.slice none 0 0] ∨ ∃ (a : Addr) (len cap n : Nat) (D : Nat → DataW H) (rest : List (DataW H)), cs = [.slice (some a) len cap] ∧ len ≤ cap ∧ cap ≤ maxLen ∧ x.1 = .slice ((List.range len).map D) rest ∧ ∀ i, i < cap → ∃ (vs : List Value) (xs : List (DataW H × List MemPlace)), vs.length = P.cellsOf e ∧ (∀ j, j < P.cellsOf e → w.cell? (a.add (i * P.cellsOf e + j)) = vs[j]?) ∧ D i = .agg (xs.map (·.1)) ∧
      ∀ (j : Nat) (f : Field), fs[j]? = some f → ∃ y, xs[j]? = some y ∧ DataW.trod enc P w base (fun _ => true) held n f.type ((vs.drop f.offset).take (P.cellsOf f.type)) = some y := by
  rcases Go.Deep.open_slice ht h with h0 | ⟨a, len, cap, m, n, D, Pl, rfl, hb, hl, hm, hmm, rfl, hx⟩
  · exact Or.inl h0.1
  right
  simp only [if_true] at hmm
  have hmm' := hmm.symm
  subst hmm'
  refine ⟨a, len, cap, n - 1, D, _, rfl, hl, hm, rfl, fun i hi => ?_⟩
  obtain ⟨cs', h1, h2⟩ := hx i hi
  obtain ⟨_, hlen, hcell⟩ := World.cells?_some h1
  obtain ⟨xs, k, hk, hxe, _, hxl, hf⟩ := DataW.trod_struct he h2
  have hk' : k = n - 1 := by omega
  subst hk'
  refine ⟨cs', xs, hlen, fun j hj => ?_, (Prod.mk.inj hxe).1, fun j f hjf => ?_⟩
  · have := hcell j hj
    rwa [Go.Deep.add_add] at this
  · have hj : j < fs.size := by
      rcases Nat.lt_or_ge j fs.size with h | h
      · exact h
      · rw [Array.getElem?_eq_none h] at hjf; cases hjf
    have hx : xs[j]? = some (xs[j]'(by omega)) := List.getElem?_eq_getElem (by omega)
    exact ⟨xs[j]'(by omega), hx, by rw [hf j f hjf, hx]⟩
end
section
open Go.ChangeShapes Go.WideShapes Go.ChangeAt
variable {H : Type} {enc : TypeId × Value → H} {W : World} {base : Nat} {v : Value} {d : DataW H} {p : List MemPlace}
theorem cellsIt9 : Tryz.prog.cellsOf 91 = 3 := by kernel_rfl
set_option maxRecDepth 100000 in
theorem open_items18 (hval : Value.okWide Tryz.prog W .any base 22 v) (h : DataW.Trod enc Tryz.prog W 0 (fun _ => true) true 22 v d p) : ∃ L, SeesIt W v L ∧ L.length ≤ maxLen := by
  obtain ⟨a0, len, cap, rfl⟩ := okWide_slice Tryz.underlying22 hval
  obtain ⟨fuel, hf⟩ := h
  rcases open_structsD Tryz.underlying22 Tryz.underlying91 hf with hcs | ⟨a, len', cap', n, D, rest, hcs, hl, hm, hxd, hall⟩
  · simp [Value.cells] at hcs
    obtain ⟨rfl, rfl, rfl⟩ := hcs
    exact ⟨[], ⟨none, 0, rfl, Nat.le_refl _, fun _ => rfl, fun a h => by cases h⟩, Nat.zero_le _⟩
  · simp [Value.cells] at hcs
    obtain ⟨rfl, rfl, rfl⟩ := hcs
    rw [cellsIt9] at hall
    have each : ∀ i, i < cap → ∃ q : IT, W.cell? (a.add (i * 3)) = some (.string q.1) ∧ W.cell? ((a.add (i * 3)).add 1) = some (.string q.2.1) ∧ W.cell? ((a.add (i * 3)).add 2) = some (.int .i64 q.2.2) := by
      intro i hi
      obtain ⟨vs, xs, hlen, hc, hDi, hfl⟩ := hall i hi
      match vs, hlen with
      | [v0, v1, v2], _ =>
        obtain ⟨y0, z0, g0⟩ := hfl 0 _ rfl
        obtain ⟨y1, z1, g1⟩ := hfl 1 _ rfl
        obtain ⟨y2, z2, g2⟩ := hfl 2 _ rfl
        rw [show Tryz.prog.cellsOf _ = 1 from by kernel_rfl] at g0 g1 g2
        obtain ⟨x0, e0, _, w0⟩ := DataW.trod_string Tryz.underlying9 g0
        obtain ⟨x1, e1, _, w1⟩ := DataW.trod_string Tryz.underlying9 g1
        obtain ⟨x2, e2, _, w2⟩ := DataW.trod_int Tryz.underlying2 g2
        simp at e0 e1 e2
        subst e0 e1 e2
        have c0 := hc 0 (by omega)
        have c1 := hc 1 (by omega)
        have c2 := hc 2 (by omega)
        rw [← Go.Deep.add_add] at c1 c2
        rw [Nat.add_zero] at c0
        exact ⟨(x0, x1, x2), c0, c1, c2⟩
    obtain ⟨q, hq⟩ := Go.Deep.choose_lt each
    refine ⟨(List.range len).map q, ⟨some a, cap, by simp, by simp; omega, (fun h => by cases h), fun b hb i r hr j u hu => ?_⟩, by simp; omega⟩
    cases hb
    rw [List.getElem?_map] at hr
    rcases Nat.lt_or_ge i len with hi | hi
    · rw [List.getElem?_range hi] at hr
      obtain rfl := Option.some.inj hr
      obtain ⟨h0, h1, h2⟩ := hq i (by omega)
      rcases j with _ | _ | _ | j
      · obtain rfl : _ = u := Option.some.inj hu
        rw [Addr.add_zero18]
        exact h0
      · obtain rfl : _ = u := Option.some.inj hu
        exact h1
      · obtain rfl : _ = u := Option.some.inj hu
        exact h2
      · cases hu
    · rw [List.getElem?_eq_none (by simpa using hi)] at hr
      cases hr
end
end Go.Proofs.YtiifbhiodegipaaGreatDoor
namespace Go.Proofs.YtiifbhiodegipaaGreatDoor
open Go.RowKit
theorem allN_ne {L : List IT} : ∀ {i : Nat} {rs : List DR}, allN L i = some rs → ∀ r ∈ rs, r ≠ .no
  | 0, rs, h, r, hr => by
    obtain rfl : [] = rs := Option.some.inj h
    cases hr
  | i + 1, rs, h, r, hr => by
    rw [allN] at h
    cases ha : allN L i with
    | none => rw [ha] at h; cases h
    | some qs =>
      rw [ha] at h
      simp only [] at h
      cases hq : L[i]? with
      | none =>
        rw [hq] at h
        obtain rfl : qs = rs := Option.some.inj h
        exact allN_ne ha r hr
      | some q =>
        rw [hq] at h
        simp only [] at h
        split at h
        · cases h
        · cases hd : rdAny q.1 q.2.1 with
          | no => rw [hd] at h; cases h
          | _ =>
            rw [hd] at h
            obtain rfl := Option.some.inj h
            rcases List.mem_append.1 hr with hr | hr
            · exact allN_ne ha r hr
            · rw [List.mem_singleton.1 hr]
              intro e
              cases e
theorem cntR_map (X : List RX) (k : Int) : ((X.map (·.1)).filter (fun r => kindR r == k)).length = cntR X k := by
  unfold cntR
  rw [List.filter_map, List.length_map]
  rfl
theorem cnt_of {β : Type} (f : DR → Option β) (k : Int) (hf : ∀ r, (f r).isSome = (kindR r == k)) (X : List RX) : ((X.map (·.1)).filterMap f).length = cntR X k := by
  rw [cnt_filterMap f k hf, cntR_map]
theorem place_of {β : Type} (f : DR → Option β) (k : Int) (hf : ∀ r, (f r).isSome = (kindR r == k)) {X : List RX} {i : Nat} {x : RX} {y : β} (hi : X[i]? = some x) (hy : f x.1 = some y) : ((X.map (·.1)).filterMap f)[cntR (X.take i) k]? = some y := by
  have h := at_filterMap f (X.map (·.1)) i x.1 y (by rw [List.getElem?_map, hi]; rfl) hy
  rwa [← List.map_take, cnt_of f k hf] at h
theorem blk_right {k v : ByteArray} {b : BlkS} (h : rdAny k v = .blk b) : BWf b ∧ rightB b = true := by
  unfold rdAny at h
  split at h
  · cases h
  split at h
  · unfold rdPl at h; split at h
    · split at h <;> cases h
    · cases h
  split at h
  · unfold rdBl at h; split at h
    · split at h
      · rename_i hc
        cases h
        rw [Bool.and_eq_true] at hc
        have ho := hc.1
        have e : imC v = (imRd (some (strI (rest v pB)))).1 := by unfold imC; rw [if_pos ho]
        unfold imOk at ho
        simp only [Bool.and_eq_true] at ho
        rw [e]
        exact ⟨(imRd_wf (some (strI (rest v pB))) (okB_strI _)).1, ho.2.2⟩
      · cases h
    · cases h
  split at h
  · unfold rdAf at h; split at h <;> cases h
  split at h
  · unfold rdHn at h
    split at h <;> cases h
  · unfold rdNd at h; split at h <;> cases h
theorem han_len {k v n : ByteArray} {L : List (Int × Int)} (hv : v.size ≤ 600) (hk : k.size ≤ 590) (h : rdAny k v = .han n L) : L.length ≤ 1000000 ∧ n.size ≤ maxLen := by
  have hkey := key_han h
  refine ⟨?_, ?_⟩
  · have h2 : L = (HN.readR v).1 := by
      unfold rdAny at h
      split at h
      · cases h
      split at h
      · unfold rdPl at h; split at h
        · split at h <;> cases h
        · cases h
      split at h
      · unfold rdBl at h; split at h
        · split at h <;> cases h
        · cases h
      split at h
      · unfold rdAf at h; split at h <;> cases h
      split at h
      · unfold rdHn at h
        split at h
        · cases h; rfl
        · cases h
      · unfold rdNd at h; split at h <;> cases h
    have := (HN.read_bd v (by omega)).2.1
    rw [h2]
    omega
  · have : k.size = NM.pHan.size + n.size := by rw [hkey, ByteArray.size_append]
    unfold maxLen
    omega
theorem pairs_of {β : Type} (f : DR → Option (Lit × β)) {L : List IT} (hd : L.Pairwise (fun a b => a.1 ≠ b.1)) (hf : ∀ a ∈ L, ∀ b ∈ L, ∀ x y, f (rdI a) = some x → f (rdI b) = some y → x.1 = y.1 → a.1 = b.1) : ((L.map rdI).filterMap f).Pairwise (fun a b => a.1 ≠ b.1) := by
  rw [List.filterMap_map]
  have h : L.Pairwise (fun a b => ∀ x y, f (rdI a) = some x → f (rdI b) = some y → x.1 ≠ y.1) := hd.imp_of_mem (fun ha hb hne x y hx hy e => hne (hf _ ha _ hb x y hx hy e))
  exact List.Pairwise.filterMap (f ∘ rdI) (fun a a' hR b hb b' hb' => hR b b' hb hb') h
theorem afs_ok {L : List IT} (hd : L.Pairwise (fun a b => a.1 ≠ b.1)) (hs : ∀ q ∈ L, q.1.size ≤ 590) : ((L.map rdI).filterMap afR).Pairwise (fun a b => a.1 ≠ b.1) := by
  refine pairs_of afR hd (fun a ha b hb x y hx hy e => ?_)
  cases hra : rdI a with
  | aff n c st =>
    cases hrb : rdI b with
    | aff n' c' st' =>
      rw [hra] at hx
      rw [hrb] at hy
      cases hx
      cases hy
      obtain ⟨k1, k2, k3⟩ := key_aff (hs a ha) hra
      obtain ⟨j1, j2, j3⟩ := key_aff (hs b hb) hrb
      injection e with e
      obtain ⟨rfl, rfl⟩ := keyF_inj k2 k3 j2 j3 e
      rw [k1, j1]
    | _ => rw [hrb] at hy; cases hy
  | _ => rw [hra] at hx; cases hx
theorem has_ok {L : List IT} (hd : L.Pairwise (fun a b => a.1 ≠ b.1)) : ((L.map rdI).filterMap haR).Pairwise (fun a b => a.1 ≠ b.1) := by
  refine pairs_of haR hd (fun a ha b hb x y hx hy e => ?_)
  cases hra : rdI a with
  | han n c =>
    cases hrb : rdI b with
    | han n' c' =>
      rw [hra] at hx
      rw [hrb] at hy
      cases hx
      cases hy
      obtain rfl := keyL_inj e
      rw [key_han hra, key_han hrb]
    | _ => rw [hrb] at hy; cases hy
  | _ => rw [hra] at hx; cases hx
theorem nos_ok {L : List IT} (hd : L.Pairwise (fun a b => a.1 ≠ b.1)) : ((L.map rdI).filterMap noR).Pairwise (fun a b => a.1 ≠ b.1) := by
  refine pairs_of noR hd (fun a ha b hb x y hx hy e => ?_)
  cases hra : rdI a with
  | nod n c =>
    cases hrb : rdI b with
    | nod n' c' =>
      rw [hra] at hx
      rw [hrb] at hy
      cases hx
      cases hy
      obtain rfl := keyL_inj e
      rw [key_nod hra, key_nod hrb]
    | _ => rw [hrb] at hy; cases hy
  | _ => rw [hra] at hx; cases hx
theorem lit_af (rs : List DR) : ∀ e ∈ rs.filterMap afR, WideAt.IsKeyLit e.1 := fun e he => by
  obtain ⟨r, _, hr⟩ := List.mem_filterMap.1 he
  cases r with
  | aff n a st => cases hr; trivial
  | _ => cases hr
theorem lit_ha (rs : List DR) : ∀ e ∈ rs.filterMap haR, WideAt.IsKeyLit e.1 := fun e he => by
  obtain ⟨r, _, hr⟩ := List.mem_filterMap.1 he
  cases r with
  | han n L => cases hr; trivial
  | _ => cases hr
theorem lit_no (rs : List DR) : ∀ e ∈ rs.filterMap noR, WideAt.IsKeyLit e.1 := fun e he => by
  obtain ⟨r, _, hr⟩ := List.mem_filterMap.1 he
  cases r with
  | nod n g => cases hr; trivial
  | _ => cases hr
/-- How much a view has of each. -/
theorem sizes18 {L : List IT} {X : List RX} (hX : X.map (·.1) = L.map rdI) (hd : L.Pairwise (fun a b => a.1 ≠ b.1)) (hs : ∀ q ∈ L, q.1.size ≤ 590) :
    (sumR (X.map (·.1))).pools.length = cntR X 1 ∧ (sumR (X.map (·.1))).blks.length = cntR X 2 ∧ (sumR (X.map (·.1))).affs.length = cntR X 3 ∧ (sumR (X.map (·.1))).hans.length = cntR X 4 ∧ (sumR (X.map (·.1))).nods.length = cntR X 5 := by
  rw [sumR_eq]
  refine ⟨cnt_of poR 1 poR_is X, cnt_of blR 2 blR_is X, ?_, ?_, ?_⟩
  · exact (fold_put _ (lit_af _) (by rw [hX]; exact afs_ok hd hs)).1.trans (cnt_of afR 3 afR_is X)
  · exact (fold_put _ (lit_ha _) (by rw [hX]; exact has_ok hd)).1.trans (cnt_of haR 4 haR_is X)
  · exact (fold_put _ (lit_no _) (by rw [hX]; exact nos_ok hd)).1.trans (cnt_of noR 5 noR_is X)
theorem saysAny {w : World} {B g n : Nat} {p : VwP} {X : List RX} {L : List IT} {i : Nat} {x : RX} (hV : VwIs w B g n p (sumR (X.map (·.1)))) (hX : X.map (·.1) = L.map rdI) (hd : L.Pairwise (fun a b => a.1 ≠ b.1)) (hs : ∀ q ∈ L, q.1.size ≤ 590 ∧ q.2.1.size ≤ 600) (hn : n ≤ 1000) (hi : X[i]? = some x) (hok : ROk w x) (hno : x.1 ≠ .no) :
    Calls Tryz.prog 12 #[.agg (vwL p).toArray, .agg (encR x).toArray, .int .i64 (cntR (X.take i) (kindR x.1))] w fun e w' => e = .returned (.bool true) ∧ Below w.heap.size w w' := by
  obtain ⟨q, hq, hqx⟩ : ∃ q ∈ L, rdI q = x.1 := by
    have h : x.1 ∈ X.map (·.1) := List.mem_map.2 ⟨x, List.mem_of_getElem? hi, rfl⟩
    rw [hX] at h
    obtain ⟨q, h1, h2⟩ := List.mem_map.1 h
    exact ⟨q, h1, h2⟩
  have hmem : x.1 ∈ X.map (·.1) := List.mem_map.2 ⟨x, List.mem_of_getElem? hi, rfl⟩
  obtain ⟨hs1, hs2⟩ := hs q hq
  have hs' : ∀ q ∈ L, q.1.size ≤ 590 := fun q hq => (hs q hq).1
  obtain ⟨pv, bv, ma, mh, mn, PX, PH⟩ := p
  obtain ⟨po, pc, hpv⟩ := hV.pools.slice
  obtain ⟨bo, bc, hbv⟩ := hV.blks.slice
  generalize (sumR (X.map (·.1))).pools.length = pn at hpv
  have hpools := hV.pools
  have hblks := hV.blks
  have hxs := hV.xs
  have hxok := hV.ok
  obtain ⟨na, _, hA⟩ := hV.affs
  obtain ⟨nh, _, hH, hHR⟩ := hV.hans
  obtain ⟨nn, _, hN⟩ := hV.nods
  have hlp := hV.lp
  have hlb := hV.lb
  have e := sumR_eq (X.map (·.1))
  simp only [] at hpv hbv hpools hblks hxs hxok hA hH hHR hN hlp hlb
  subst hpv
  subst hbv
  rw [e] at hpools hxs hA hHR hN hlp
  simp only [] at hpools hxs hA hHR hN hlp
  obtain ⟨r, s1, s2, s3, s4⟩ := x
  simp only [] at hqx hmem hno
  have hx : ∀ (f : DR → Option Int), True := fun _ => trivial
  cases r with
  | no => exact absurd rfl hno
  | lock => exact saysLk _ w
  | pool q =>
    obtain ⟨a, b, o⟩ := q
    have hp := place_of poR 1 poR_is hi (y := (a, b, o)) rfl
    have hlen := (List.getElem?_eq_some_iff.1 hp).1
    obtain ⟨gq, rfl⟩ := row_addr hpools (by omega)
    exact saysPl a b o _ w hpools hp (by omega)
  | blk b =>
    have hp := place_of blR 2 blR_is hi (y := b) rfl
    rw [← hxs, List.getElem?_map] at hp
    cases hpx : PX[cntR (X.take i) 2]? with
    | none => rw [hpx] at hp; cases hp
    | some y =>
      rw [hpx] at hp
      have hy : y.1 = b := Option.some.inj hp
      have hlen := (List.getElem?_eq_some_iff.1 hpx).1
      obtain ⟨gq, rfl⟩ := row_addr hblks (by omega)
      obtain ⟨hwf, hrb⟩ := blk_right hqx
      obtain ⟨o1, n1, c1⟩ := s1
      obtain ⟨o2, n2, c2⟩ := s2
      obtain ⟨o3, n3, c3⟩ := s3
      exact saysBl b y o1 o2 o3 n1 c1 n2 c2 n3 c3 _ w hblks hpx hy (by omega) (hxok y (List.mem_of_getElem? hpx)) hwf hrb hok
  | aff n a st =>
    obtain ⟨_, k2, k3⟩ := key_aff hs1 hqx
    have hg := (fold_put _ (lit_af (X.map (·.1))) (by rw [hX]; exact afs_ok hd hs')).2.1 (.string (keyF n a), .int .i64 st) (List.mem_filterMap.2 ⟨_, hmem, rfl⟩)
    exact saysAf n a st _ w hA k2 k3 hg
  | han n Lc =>
    obtain ⟨hl, hnz⟩ := han_len hs2 hs1 hqx
    have hg := (fold_put _ (lit_ha (X.map (·.1))) (by rw [hX]; exact has_ok hd)).2.1 (keyL n, Lc) (List.mem_filterMap.2 ⟨_, hmem, rfl⟩)
    rcases hHR.get (keyL n) with ⟨_, h2⟩ | ⟨v, c, h1, h2, h3⟩
    · rw [h2] at hg; cases hg
    · rw [h2] at hg
      obtain rfl := Option.some.inj hg
      obtain ⟨o4, n4, c4⟩ := s4
      exact saysHn n _ v o4 n4 c4 _ w hH hnz h1 h3 hl hok
  | nod n gn =>
    have hkey := key_nod hqx
    have hnz : n.size ≤ maxLen := by
      have : q.1.size = NM.pNod.size + n.size := by rw [hkey, ByteArray.size_append]
      unfold maxLen
      omega
    have hg := (fold_put _ (lit_no (X.map (·.1))) (by rw [hX]; exact nos_ok hd)).2.1 (keyL n, .bool gn) (List.mem_filterMap.2 ⟨_, hmem, rfl⟩)
    exact saysNd n gn _ w hN hnz hg
end Go.Proofs.YtiifbhiodegipaaGreatDoor
