/- Joined: Pre Plain Ip IpTextW. -/
import Derived.Test.YtkldglhihfjclaaGreatDoorRows
import Derived.Test.YtkldglhihfjclaaGreatDoorCards
import Derived.Test.YtkldglhihfjclaaGreatDoorTie
import Derived.WalkKit
import Derived.ProofKit
import Derived.OpenShut
import Derived.LaidMore
import Derived.HandedShaped
import Derived.SevenTiedAt
import Derived.Stop.Joined
import Derived.Lib.LaidTab
import Derived.Lib.ItoaNum
import Derived.Shelf.Vars
import Derived.WalkSmall
import Derived.Lib.IndexMore
import Derived.BigQuiet
import Derived.Lib.Hide
import Derived.Deep.QuietTactic
import Derived.LoopN
import Derived.Test.YtkldglhihfjclaaGreatDoorShelf
import Derived.Lib.UnsafeStr
import Derived.Laws.IdiomStrings
import Derived.OwnWalk
import Derived.BigCall
import Derived.Laws.DeepStrings4
namespace Go.Proofs.YtkldglhihfjclaaGreatDoor.NM
section
open Go.ChangeShapes Go.WideShapes Go.ChangeAt Go.RowKit

section
variable {H : Type} {enc : TypeId × Value → H}

/-- The wrap: a contract is handed what the row lists (X) and the world's shape. -/
theorem wrapBoth {a : Assume} {C : Checked} {os : Os} {f : FuncId} {fn : Func} {s : ChangeSpec} {conds : List PathCond} {apart fresh handsOn again : Bool} {X : World → Array Value → Prop}
    (hX : ∀ (w w' : World) (args : Array Value), w.heap = w'.heap → X w args → X w' args)
    (own : ownKnob C.prog.godebug = none) (started : os.Started) (noInit : C.prog.inits.idxOf? f = none) (hfn : C.prog.funcs[f]? = some fn)
    (witness : ∃ (w : World) (tape : Tape) (i : Input), w.os = os ∧ (w.forCall tape i).Shaped C.prog ∧ i.vars = [] ∧ Input.okWide C.prog (w.forCall tape i) .any w.heap.size f i ∧
      ((s.pre enc C.prog fn conds apart (w.forCall tape i).memory i.args ∧ X (w.forCall tape i).memory i.args) ∧ sizedMet enc C.prog fn (OpenSpec.ofChange s) apart (w.forCall tape i).memory i.args) ∧ a.holds C.prog (lone (Frame.enter C.prog f i.args .normal) [] (w.forCall tape i)))
    (contract : ∀ (W : World) (base : Nat) (args : Array Value) (ds gs : List (DataW H)) (before : List MemPlace),
      (∀ (j : Nat) t v, fn.params[j]? = some t → args[j]? = some v → Value.okWide C.prog W .any base t v) →
      DataW.Whole enc C.prog fn.params.toList s.vars apart W args.toList ds gs before →
      conds.all (PathCond.test C.prog ⟨fn.params.toList, ds, s.plain.varTypes C.prog, gs⟩) = true →
      (DataW.weightsEach C.prog (fn.params.toList ++ s.plain.varTypes C.prog) (ds ++ gs)).all (· ≤ reachBytes) = true → X W args →
      W.ShapedOpen C.prog →
      Calls C.prog f args W fun e W' => ∃ v, e = .returned v ∧ s.post enc C.prog fn apart fresh handsOn again W args v W') :
    ReturnsInHanded a C os f .any (fun w args => (s.pre enc C.prog fn conds apart w args ∧ X w args) ∧ sizedMet enc C.prog fn (OpenSpec.ofChange s) apart w args) (s.post enc C.prog fn apart fresh handsOn again) := by
  refine returnsInHanded_of_calls own started noInit witness ?_
  intro w tape i _ hsh _ hok hpre _
  obtain ⟨_, _, _, fn', hfn', _, _, _, _, hval⟩ := hok
  have e : fn' = fn := Option.some.inj (hfn'.symm.trans hfn)
  subst e
  obtain ⟨⟨⟨ds, gs, before, hw, hc⟩, hx⟩, hz⟩ := hpre
  have hw' := DataW.Whole.of_heap (w' := w.forCall tape i) (by rfl) hw
  refine (contract (w.forCall tape i) w.heap.size i.args ds gs before hval hw' hc (hz.weights hw) (hX _ _ _ (by rfl) hx) hsh).mono fun e W' ⟨v, he, hp⟩ => ?_
  subst he
  exact ChangeSpec.post_blind hp
end

theorem laidOut0 : laidOutB Tryz.prog = true := by kernel_rfl
theorem u32_bd {x : Int} (h : (Lit.int .u32 x).wf = true) : 0 ≤ x ∧ x < 4294967296 := by have := bounds_u32 h; omega
theorem i64_bd {x : Int} (h : (Lit.int .i64 x).wf = true) : -9223372036854775808 ≤ x ∧ x ≤ 9223372036854775807 := by have := bounds_i64 h; omega
theorem u8_bd {x : Int} (h : (Lit.int .u8 x).wf = true) : 0 ≤ x ∧ x ≤ 255 := by have := bounds_u8 h; omega
theorem ownKnob0 : ownKnob Tryz.prog.godebug = none := by kernel_rfl
theorem gTab : Tryz.prog.globalNamed "internal/strconv.uint64pow10" = some 3 := by kernel_rfl

/-- What a road of this program asks of the world. 'b': below it lies all that was there when the law began. -/
structure Env (w : World) : Prop where
  max : ∃ m, w.cell? ⟨0, 0, none⟩ = some (.int .i64 m)
  lt1 : 0 < w.heap.size
  lt2 : 3 < w.heap.size
  tab : Lib.TabIs Tryz.prog w "internal/strconv.uint64pow10" .u64 Lib.pow10Tab

theorem cell_lt {w : World} {g : Nat} {v : Value} (h : w.cell? ⟨g, 0, none⟩ = some v) : g < w.heap.size := by
  rcases Nat.lt_or_ge g w.heap.size with hlt | hge
  · exact hlt
  · simp [World.cell?, Array.getElem?_eq_none hge] at h

theorem Env.below {w w' : World} (h : Env w) (hb : Below w.heap.size w w') : Env w' := by
  obtain ⟨⟨m, hm⟩, h1, h2, h3⟩ := h
  have := hb.size
  refine ⟨⟨m, ?_⟩, by omega, by omega, ?_⟩
  · rw [hb.cell (p := ⟨0, 0, none⟩) h1]; exact hm
  · exact var?_below hb gTab h2 h3

theorem pow10_eq : (Rows.laid_internal_strconv_uint64pow10 : DataW Unit) = Lib.tabData .u64 Lib.pow10Tab := by kernel_rfl
theorem tabType : (Tryz.prog.globals[3]?).map (·.type) = some 292 := by kernel_rfl
theorem tabCells : Tryz.prog.cellsOf 292 = 20 := by kernel_rfl
theorem tabCell1 : Tryz.prog.cellsOf 159 = 1 := by kernel_rfl

/-- The three listed variables, as the rows list them. -/
noncomputable def laid3 : List (String × DataW Unit) := [("math/bits.deBruijn32tab", Rows.laid_math_bits_deBruijn32tab), ("math/bits.deBruijn64tab", Rows.laid_math_bits_deBruijn64tab), ("internal/strconv.uint64pow10", Rows.laid_internal_strconv_uint64pow10)]

theorem env_of {W : World} (h0 : laidMetH Tryz.prog laid3 W) (hs : W.ShapedOpen Tryz.prog) : Env W := by
  have h := h0
  rw [MakeChecks.laidMetH_plain _ _ _ (by kernel_rfl)] at h
  obtain ⟨ps, ⟨_, _, _, _, _, _, _, _, _, _, ⟨_, _, _, _, _, _, _, _, _, _, ⟨g, t, cs, fuel, p, q, hg, ht, hv, hd, _⟩, _⟩, _⟩, _⟩ := h
  obtain rfl := Option.some.inj (gTab.symm.trans hg)
  obtain rfl := Option.some.inj (tabType.symm.trans ht)
  rw [pow10_eq] at hd
  have hT : Lib.TabIs Tryz.prog W "internal/strconv.uint64pow10" .u64 Lib.pow10Tab := by
    unfold Lib.TabIs
    rw [hv, ← Lib.cells_of_tab Tryz.underlying292 Tryz.underlying159 tabCell1 tabCells hd]
  obtain ⟨m, hm⟩ : ∃ m, W.cell? ⟨0, 0, none⟩ = some (.int .i64 m) :=
    cell_of_shapedOpen_int (zero := #[.int .i64 0]) (t := 3) hs (Nat.le_of_ble_eq_true (by kernel_rfl)) (by kernel_rfl) rfl (by kernel_rfl) (by kernel_rfl) Tryz.underlying3
  exact ⟨⟨m, hm⟩, cell_lt hm, cell_lt (hT.cell gTab 0 (by rw [Lib.pow10Tab_length]; omega)), hT⟩

theorem door_met (os : Os) (args : Array Value) : laidMetH Tryz.prog laid3 ((World.doorLaid Tryz.prog 400 os).forCall (fun _ _ => 0) ⟨#[], args, []⟩).memory :=
  laidMetH_of_parts3 (fuel := 8) (laidMet_of_run' 8 (by kernel_rfl) (by kernel_rfl)) (by kernel_rfl) (by kernel_rfl)
theorem door_shape (os : Os) (args : Array Value) : ((World.doorLaid Tryz.prog 400 os).forCall (fun _ _ => 0) ⟨#[], args, []⟩).Shaped Tryz.prog := World.shaped_of_RefB (by kernel_rfl) (by kernel_rfl)
end
section
open Go

/-- A byte that is a digit. -/
def isDig (c : UInt8) : Bool := decide (48 ≤ (c.toNat : Int) ∧ (c.toNat : Int) ≤ 57)
/-- The number that digits make. -/
def num10 (l : List UInt8) : Int := l.foldl (fun n c => n * 10 + ((c.toNat : Int) - 48)) 0
/-- 1 to k digits, no nought ahead of others. -/
def numOk (k : Nat) (l : List UInt8) : Bool := decide (1 ≤ l.length) && decide (l.length ≤ k) && !(decide (1 < l.length) && (l.getD 0 0 == 48)) && l.all isDig

theorem num10_snoc (l : List UInt8) (c : UInt8) : num10 (l ++ [c]) = num10 l * 10 + ((c.toNat : Int) - 48) := by
  simp [num10, List.foldl_append]
theorem isDig_bounds {c : UInt8} (h : isDig c = true) : 48 ≤ (c.toNat : Int) ∧ (c.toNat : Int) ≤ 57 := by
  unfold isDig at h; exact of_decide_eq_true h
theorem all_take {l : List UInt8} (h : l.all isDig = true) (k : Nat) : (l.take k).all isDig = true := by
  rw [List.all_eq_true] at h ⊢
  intro x hx
  exact h x (List.mem_of_mem_take hx)
theorem snocInd {α : Type} {P : List α → Prop} (h0 : P []) (h1 : ∀ l c, P l → P (l ++ [c])) (l : List α) : P l := by
  have h : ∀ r : List α, P r.reverse := by
    intro r
    induction r with
    | nil => exact h0
    | cons c r ih => rw [List.reverse_cons]; exact h1 _ _ ih
  have := h l.reverse
  rwa [List.reverse_reverse] at this
theorem num10_bounds (l : List UInt8) : l.all isDig = true → 0 ≤ num10 l ∧ num10 l < 10 ^ l.length := by
  refine snocInd (P := fun l => l.all isDig = true → 0 ≤ num10 l ∧ num10 l < 10 ^ l.length) ?_ ?_ l
  · intro _; simp [num10]
  · intro l c ih h
    rw [List.all_append, Bool.and_eq_true] at h
    have hc := isDig_bounds (by simpa using h.2)
    obtain ⟨i1, i2⟩ := ih h.1
    rw [num10_snoc, List.length_append, List.length_singleton, Int.pow_succ]
    omega
end
section
open Go.RowKit
def pbVal (l : List UInt8) : Value := if numOk 3 l = true ∧ num10 l ≤ 255 then .tuple #[.int .u8 (num10 l), .bool true] else .tuple #[.int .u8 0, .bool false]
theorem take_snoc (s : ByteArray) (k : Nat) (h : k < s.size) : s.data.toList.take (k + 1) = s.data.toList.take k ++ [s[k]] := by
  rw [List.take_succ_eq_append_getElem (by simpa using h)]; rfl
theorem isDig_of {c : UInt8} (h1 : ¬ (c.toNat : Int) < 48) (h2 : ¬ 57 < (c.toNat : Int)) : isDig c = true := by unfold isDig; exact decide_eq_true ⟨by omega, by omega⟩
theorem take_dig {s : ByteArray} {k : Nat} (h : k < s.size) (hd : (s.data.toList.take k).all isDig = true) (hc : isDig s[k] = true) : (s.data.toList.take (k + 1)).all isDig = true := by
  rw [take_snoc s k h, List.all_append, hd]; simp [hc]
theorem not_all {s : ByteArray} {k : Nat} (h : k < s.size) (hc : ¬ isDig s[k] = true) : ¬ s.data.toList.all isDig = true := fun ha => by
  have hk : k < s.data.toList.length := by simpa using h
  exact hc (List.all_eq_true.1 ha _ (List.getElem_mem hk))
theorem isDig_not {c : UInt8} (h : (c.toNat : Int) < 48 ∨ 57 < (c.toNat : Int)) : ¬ isDig c = true := fun hd => by
  have := isDig_bounds hd; omega
theorem pow10_le3 {k : Nat} (h : k ≤ 3) : (10 : Int) ^ k ≤ 1000 := by
  match k, h with
  | 0, _ => decide
  | 1, _ => decide
  | 2, _ => decide
  | 3, _ => decide
theorem len_of (s : ByteArray) : s.data.toList.length = s.size := rfl
theorem numOk_iff (k : Nat) (l : List UInt8) : numOk k l = true ↔ (1 ≤ l.length ∧ l.length ≤ k ∧ ¬ (1 < l.length ∧ l.getD 0 0 = 48)) ∧ l.all isDig = true := by
  unfold numOk
  simp only [Bool.and_eq_true, decide_eq_true_eq, Bool.not_eq_true', Bool.and_eq_false_iff, decide_eq_false_iff_not, beq_eq_false_iff_ne, ne_eq]
  constructor
  · rintro ⟨⟨⟨a, b⟩, c⟩, d⟩
    exact ⟨⟨a, b, fun ⟨e, f⟩ => by rcases c with c | c <;> contradiction⟩, d⟩
  · rintro ⟨⟨a, b, c⟩, d⟩
    refine ⟨⟨⟨a, b⟩, ?_⟩, d⟩
    by_cases h : 1 < l.length
    · exact .inr fun e => c ⟨h, e⟩
    · exact .inl h
theorem pb_no {l : List UInt8} (h : ¬ (numOk 3 l = true ∧ num10 l ≤ 255)) : pbVal l = .tuple #[.int .u8 0, .bool false] := if_neg h
theorem pb_yes {l : List UInt8} (h : numOk 3 l = true ∧ num10 l ≤ 255) : pbVal l = .tuple #[.int .u8 (num10 l), .bool true] := if_pos h
theorem byte0 {s : ByteArray} (h : 0 < s.size) : s.data.toList.getD 0 0 = s[0] := by
  have hk : 0 < s.data.toList.length := by simpa using h
  rw [List.getD_eq_getElem?_getD, List.getElem?_eq_getElem hk]; rfl
theorem byte_eq {c : UInt8} {n : Nat} (hn : n < 256) : c = UInt8.ofNat n ↔ (c.toNat : Int) = n := by
  constructor
  · rintro rfl; simp [UInt8.toNat_ofNat']; omega
  · intro h; apply UInt8.toNat_inj.1; simp [UInt8.toNat_ofNat']; omega
theorem all_of_take {l : List UInt8} {k : Nat} (h : (l.take k).all isDig = true) (hk : l.length ≤ k) : l.all isDig = true := by rwa [List.take_of_length_le hk] at h
/-- The loop over the digits, whatever stood ahead of it. -/
theorem pb_in (s : ByteArray) (h1 : 1 ≤ s.size) (h3 : s.size ≤ 3) (h0 : ¬ (1 < s.size ∧ (s.data.toList.getD 0 0) = 48)) (hd : s.data.toList.all isDig = true) : numOk 3 s.data.toList = true :=
  (numOk_iff 3 _).2 ⟨⟨h1, h3, h0⟩, hd⟩
open Go.RowKit
theorem or256 (x y : Int) (hx : 0 ≤ x) (hx' : x < 16777216) (hy : 0 ≤ y) (hy' : y ≤ 255) : bits .or .u32 (x * 256 % 4294967296) y = x * 256 + y := by
  rw [show x * 256 % 4294967296 = x * 256 from by omega, u32_or _ _ (by omega) (by omega) hy (by omega), nat_join 8 _ _ (by omega) (by omega)]
  omega
theorem or0 (y : Int) (hy : 0 ≤ y) (hy' : y ≤ 255) : bits .or .u32 0 y = y := by
  have := or256 0 y (by omega) (by omega) hy hy'
  simpa using this
theorem of_eq (a b c d : Int) (ha : 0 ≤ a) (ha' : a ≤ 255) (hb : 0 ≤ b) (hb' : b ≤ 255) (hc : 0 ≤ c) (hc' : c ≤ 255) (hd : 0 ≤ d) (hd' : d ≤ 255) :
    bits .or .u32 (bits .or .u32 (bits .or .u32 (bits .or .u32 0 a * 256 % 4294967296) b * 256 % 4294967296) c * 256 % 4294967296) d = ((a * 256 + b) * 256 + c) * 256 + d := by
  rw [or0 a ha ha', or256 a b ha (by omega) hb hb', or256 _ c (by omega) (by omega) hc hc', or256 _ d (by omega) (by omega) hd hd']
set_option maxHeartbeats 400000 in
theorem bytes_any (a : Int) (ha : 0 ≤ a) (ha' : a < 4294967296) (w : World) :
    Calls Tryz.prog 185 #[.int .u32 a] w fun e w' => e = .returned (.agg #[.int .u8 (a / 16777216), .int .u8 (a / 65536 % 256), .int .u8 (a / 256 % 256), .int .u8 (a % 256)]) ∧ Below w.heap.size w w' := by
  go_enter Tryz.func185, Tryz.ntmps185
  go_wp2
  refine wp_loop_rounds 5 ?_
  rw [rounds_succ]
  go_wp2
  rw [rounds_succ]
  go_wp2
  rw [rounds_succ]
  go_wp2
  rw [rounds_succ]
  go_wp2
  rw [rounds_succ]
  go_wp2
  refine bodyPost_ret (v := .agg #[.int .u8 (a / 16777216), .int .u8 (a / 65536 % 256), .int .u8 (a / 256 % 256), .int .u8 (a % 256)]) ?_ rfl ⟨rfl, ?_⟩
  · simp [results, Tryz.results185, go_sem]
  · exact ((Below.refl _ _).alloc (Nat.le_refl _) _).alloc (by simp) _
set_option maxHeartbeats 400000 in
theorem refByte0 (a : Int) (ha : 0 ≤ a) (ha' : a < 4294967296) (w : World) :
    Calls Tryz.prog 138 #[.int .u32 a, .int .i64 0] w fun e w' => e = .returned (.int .i64 (a / 16777216)) ∧ w = w' := by
  go_enter Tryz.func138, Tryz.ntmps138
  go_wp2
  refine wp_loop_rounds 4 ?_
  rw [rounds_succ]
  go_wp2
  rw [rounds_succ]
  go_wp2
  rw [rounds_succ]
  go_wp2
  rw [rounds_succ]
  go_wp2
  go_ret
  exact ⟨congrArg (fun x => Ending.returned (.int .i64 x)) (show a / 256 / 256 / 256 % 256 = _ by omega), rfl⟩
set_option maxHeartbeats 400000 in
theorem refByte1 (a : Int) (ha : 0 ≤ a) (ha' : a < 4294967296) (w : World) :
    Calls Tryz.prog 138 #[.int .u32 a, .int .i64 1] w fun e w' => e = .returned (.int .i64 (a / 65536 % 256)) ∧ w = w' := by
  go_enter Tryz.func138, Tryz.ntmps138
  go_wp2
  refine wp_loop_rounds 3 ?_
  rw [rounds_succ]
  go_wp2
  rw [rounds_succ]
  go_wp2
  rw [rounds_succ]
  go_wp2
  go_ret
  exact ⟨congrArg (fun x => Ending.returned (.int .i64 x)) (show a / 256 / 256 % 256 = _ by omega), rfl⟩
set_option maxHeartbeats 400000 in
theorem refByte2 (a : Int) (ha : 0 ≤ a) (ha' : a < 4294967296) (w : World) :
    Calls Tryz.prog 138 #[.int .u32 a, .int .i64 2] w fun e w' => e = .returned (.int .i64 (a / 256 % 256)) ∧ w = w' := by
  go_enter Tryz.func138, Tryz.ntmps138
  go_wp2
  refine wp_loop_rounds 2 ?_
  rw [rounds_succ]
  go_wp2
  rw [rounds_succ]
  go_wp2
  go_ret
  exact ⟨rfl, rfl⟩
set_option maxHeartbeats 400000 in
theorem refByte3 (a : Int) (ha : 0 ≤ a) (ha' : a < 4294967296) (w : World) :
    Calls Tryz.prog 138 #[.int .u32 a, .int .i64 3] w fun e w' => e = .returned (.int .i64 (a % 256)) ∧ w = w' := by
  go_enter Tryz.func138, Tryz.ntmps138
  go_wp2
  refine wp_loop_rounds 1 ?_
  rw [rounds_succ]
  go_wp2
  go_ret
  exact ⟨rfl, rfl⟩
open Go.RowKit
def cutD (l : List UInt8) : List UInt8 × List UInt8 × Bool := Lib.cut l [46]
/-- Is a text a byte's? -/
def pbOk (l : List UInt8) : Bool := numOk 3 l && decide (num10 l ≤ 255)
/-- n numbers, with points between. -/
def pl : Nat → List UInt8 → Option (List Int)
  | 0, _ => some []
  | n + 1, r => if (pbOk (cutD r).1 && ((cutD r).2.2 != decide (n = 0))) = true then (pl n (cutD r).2.1).map (num10 (cutD r).1 :: ·) else none
def ipNum : Option (List Int) → Option Int
  | some [a, b, c, d] => some (((a * 256 + b) * 256 + c) * 256 + d)
  | _ => none
def ipVal (o : Option Int) : Value := match o with
  | some n => .tuple #[.int .u32 n, .int .i64 0]
  | none => .tuple #[.int .u32 0, .int .i64 3]
/-- Which address a text is. -/
def ipOf (l : List UInt8) : Option Int := ipNum (pl 4 l)
theorem cutD_len (l : List UInt8) : (cutD l).1.length ≤ l.length ∧ (cutD l).2.1.length ≤ l.length := by
  unfold cutD Lib.cut
  split
  · simp only [List.length_take, List.length_drop]; omega
  · simp
theorem pbOk_bounds {l : List UInt8} (h : pbOk l = true) : 0 ≤ num10 l ∧ num10 l ≤ 255 := by
  unfold pbOk at h
  rw [Bool.and_eq_true, decide_eq_true_eq] at h
  exact ⟨(num10_bounds l ((numOk_iff _ _).1 h.1).2).1, h.2⟩
theorem Env.maxAll {w : World} (hE : Env w) : ∃ m : Int, ∀ W : World, Below w.heap.size w W → W.cell? ⟨0, 0, none⟩ = some (.int .i64 m) := by
  obtain ⟨m, hm⟩ := hE.max
  exact ⟨m, fun W hb => (hb.cell (p := ⟨0, 0, none⟩) hE.lt1).trans hm⟩
theorem drewN_below (w W : World) (n : Nat) (h : Below w.heap.size w W) : Below w.heap.size w (W.drewN n) := below_drewN h n
theorem pl_none {n : Nat} {r : List UInt8} (h : pbOk (cutD r).1 = false ∨ (cutD r).2.2 = decide (n = 0)) : pl (n + 1) r = none := by
  rw [pl, if_neg]
  rcases h with h | h <;> simp [h]
theorem pl_some {n : Nat} {r : List UInt8} (h1 : pbOk (cutD r).1 = true) (h2 : (cutD r).2.2 = !decide (n = 0)) : pl (n + 1) r = (pl n (cutD r).2.1).map (num10 (cutD r).1 :: ·) := by
  rw [pl, if_pos]
  simp [h1, h2]
theorem pl_step {S r : List UInt8} {n : Nat} {pre : List Int} (hP : pl 4 S = (pl (n + 1) r).map (fun t => pre ++ t)) (h1 : pbOk (cutD r).1 = true) (h2 : (cutD r).2.2 = !decide (n = 0)) :
    pl 4 S = (pl n (cutD r).2.1).map (fun t => (pre ++ [num10 (cutD r).1]) ++ t) := by
  rw [hP, pl_some h1 h2, Option.map_map]
  congr 1
  funext t
  simp
theorem pl_fail {S r : List UInt8} {n : Nat} {pre : List Int} (hP : pl 4 S = (pl (n + 1) r).map (fun t => pre ++ t)) (h : pbOk (cutD r).1 = false ∨ (cutD r).2.2 = decide (n = 0)) :
    ipVal (ipOf S) = .tuple #[.int .u32 0, .int .i64 3] := by
  unfold ipOf
  rw [hP, pl_none h]; rfl
theorem pl_done {S r : List UInt8} {a b c d : Int} (hP : pl 4 S = (pl 0 r).map (fun t => [a, b, c, d] ++ t)) : ipVal (ipOf S) = .tuple #[.int .u32 (((a * 256 + b) * 256 + c) * 256 + d), .int .i64 0] := by
  unfold ipOf
  rw [hP]; rfl
theorem size_mk (l : List UInt8) : (⟨l.toArray⟩ : ByteArray).size = l.length := by simp [ByteArray.size]
theorem set4 (w : World) (cs : Array Value) (n i : Nat) (v : Value) : ((w.alloc (.cells cs 255)).drewN n).setCell ⟨w.heap.size, i, none⟩ v = (w.alloc (.cells (cs.setIfInBounds i v) 255)).drewN n := by
  rw [show ((w.alloc (.cells cs 255)).drewN n).setCell ⟨w.heap.size, i, none⟩ v = ((w.alloc (.cells cs 255)).setCell ⟨w.heap.size, i, none⟩ v).drewN n from rfl, World.setCell_alloc_at _ _ _ _ _ rfl]
open Go.RowKit
theorem dec_len (u : Nat) (h : u ≤ 255) : (Lib.decDigits u).length ≤ 3 := by
  rw [Lib.decDigits_length]
  by_cases h1 : u < 10
  · rw [Lib.nDigits_small h1]; omega
  · rw [Lib.nDigits_big h1]
    by_cases h2 : u / 10 < 10
    · rw [Lib.nDigits_small h2]; omega
    · rw [Lib.nDigits_big h2, Lib.nDigits_small (by omega)]; omega
theorem auint_in (B n u : Nat) (hu : u ≤ 255) (sv : Value) (xs : List Value) (w : World) (hown : w.ownsRow B 5 1 sv n xs) (hBw : B ≤ w.heap.size) (hlim : n ≤ 1000) (htab : Lib.TabIs Tryz.prog w "internal/strconv.uint64pow10" .u64 Lib.pow10Tab) :
    Calls Tryz.prog 200 #[sv, .int .u64 u, .int .i64 10] w fun e w' => ∃ v', e = .returned v' ∧ w'.ownsRow B 5 1 v' (n + (Lib.decDigits u).length) (xs ++ Lib.byteCells (Lib.decDigits u)) ∧ Below B w w' := by
  by_cases h : u < 100
  · exact (Tryz.internal_strconv_AppendUint_10_small B n u h sv xs w hown hBw (by omega)).mono fun e w' ⟨v', h1, h2, h3, _⟩ => ⟨v', h1, h2, h3⟩
  · exact (Tryz.internal_strconv_AppendUint_10_big B n u (by omega) (by omega) sv xs w hown hBw (by omega) htab).mono fun e w' ⟨v', h1, h2, h3, _⟩ => ⟨v', h1, h2, h3⟩
/-- What an append leaves. -/
def Owned (B n : Nat) (xs : List Value) (w : World) (e : Ending) (w' : World) : Prop := ∃ v', e = .returned v' ∧ w'.ownsRow B 5 1 v' n xs ∧ Below B w w'
theorem auint_any (B n : Nat) (u : Int) (hu0 : 0 ≤ u) (hu : u ≤ 255) (sv : Value) (xs : List Value) (w : World) (hown : w.ownsRow B 5 1 sv n xs) (hBw : B ≤ w.heap.size) (hlim : n ≤ 1000) (htab : Lib.TabIs Tryz.prog w "internal/strconv.uint64pow10" .u64 Lib.pow10Tab) :
    Calls Tryz.prog 186 #[sv, .int .u64 u, .int .i64 10] w (Owned B (n + (Lib.decDigits u.toNat).length) (xs ++ Lib.byteCells (Lib.decDigits u.toNat)) w) := by
  obtain ⟨u, rfl⟩ := Int.eq_ofNat_of_zero_le hu0
  rw [Int.toNat_natCast]
  go_enter Tryz.func186, Tryz.ntmps186
  go_wp2_with (go_at_call 200; refine (auint_in B n u (by omega) sv xs _ hown hBw hlim htab).mono ?_; rintro e w' ⟨v', rfl, h1, h2⟩)
  go_ret
  exact ⟨_, rfl, h1, h2⟩
open Go.RowKit
/-- Byte k of an address, 0 the highest one. -/
def byteAt (a : Int) (k : Nat) : Int := match k with
  | 0 => a / 16777216
  | 1 => a / 65536 % 256
  | 2 => a / 256 % 256
  | _ => a % 256
theorem byteAt_bounds (a : Int) (ha : 0 ≤ a) (ha' : a < 4294967296) (k : Nat) : 0 ≤ byteAt a k ∧ byteAt a k ≤ 255 := by
  unfold byteAt; split <;> omega
/-- The text of the first k bytes. -/
def txt (a : Int) : Nat → List UInt8
  | 0 => []
  | k + 1 => (if k = 0 then [] else txt a k ++ [46]) ++ Lib.decDigits (byteAt a k).toNat
/-- An address's text. -/
def ipTxt (a : Int) : List UInt8 := txt a 4
theorem txt_len (a : Int) (ha : 0 ≤ a) (ha' : a < 4294967296) (k : Nat) : (txt a k).length ≤ 4 * k := by
  induction k with
  | zero => simp [txt]
  | succ k ih =>
    have := dec_len (byteAt a k).toNat (by have := byteAt_bounds a ha ha' k; omega)
    unfold txt
    split <;> simp only [List.length_append, List.length_nil, List.length_singleton] <;> omega
theorem byteInfo : (Tryz.prog.info? 5).map (fun i => (i.zero, i.size, i.bytes)) = some (some (.int .u8 0), 1, 1) := by kernel_rfl
theorem cellsOne (w : World) (b : UInt8) : ∀ (j : Nat) (u : Value), [Value.int .u8 (b.toNat : Int)][j]? = some u → (w.alloc (.cells #[.int .u8 (b.toNat : Int)] 5)).cell? ((⟨w.heap.size, 0, none⟩ : Addr).add j) = some u := by
  intro j u hj
  match j, hj with
  | 0, hj => simp at hj; subst hj; simp [Addr.add]
theorem byteCells_app (l r : List UInt8) : Lib.byteCells l ++ Lib.byteCells r = Lib.byteCells (l ++ r) := by simp [Lib.byteCells]
theorem byteCells_dot (l : List UInt8) : Lib.byteCells l ++ [Value.int .u8 46] = Lib.byteCells (l ++ [46]) := by simp [Lib.byteCells]
/-- The array of an address's bytes. -/
def arr4 (a : Int) : Obj := .cells #[.int .u8 (a / 16777216), .int .u8 (a / 65536 % 256), .int .u8 (a / 256 % 256), .int .u8 (a % 256)] 255
theorem arr4_cell (a : Int) (w W : World) (hb : Below (w.heap.size + 1) (w.alloc (arr4 a)) W) (k : Nat) (hk : k < 4) : W.cell? ⟨w.heap.size, k, none⟩ = some (.int .u8 (byteAt a k)) := by
  rw [hb.cell (p := ⟨w.heap.size, k, none⟩) (Nat.lt_succ_self _)]
  match k, hk with
  | 0, _ => unfold arr4; simp [byteAt]
  | 1, _ => unfold arr4; simp [byteAt]
  | 2, _ => unfold arr4; simp [byteAt]
  | 3, _ => unfold arr4; simp [byteAt]
theorem txt_step (a : Int) (k : Nat) : txt a (k + 2) = (txt a (k + 1) ++ [46]) ++ Lib.decDigits (byteAt a (k + 1)).toNat := by
  rw [txt, if_neg (by omega)]
theorem own_step {a : Int} {k B : Nat} {v : Value} {w : World} (h : w.ownsRow B 5 1 v ((txt a (k + 1)).length + 1 + (Lib.decDigits (byteAt a (k + 1)).toNat).length) (Lib.byteCells ((txt a (k + 1) ++ [46]) ++ Lib.decDigits (byteAt a (k + 1)).toNat))) :
    w.ownsRow B 5 1 v (txt a (k + 2)).length (Lib.byteCells (txt a (k + 2))) := by
  rw [txt_step, List.length_append, List.length_append, List.length_singleton]
  exact h
set_option maxHeartbeats 4000000 in
theorem print_any (a : Int) (ha : 0 ≤ a) (ha' : a < 4294967296) (w : World) (hE : Env w) :
    Calls Tryz.prog 162 #[.int .u32 a] w fun e w' => e = .returned (.string ⟨(ipTxt a).toArray⟩) ∧ Below w.heap.size w w' := by
  obtain ⟨i0, hi, hz0, hz1, hz2⟩ := info_parts byteInfo
  have hB := Lib.hid (byteAt_bounds a ha ha')
  have hL := Lib.hid (txt_len a ha ha')
  go_enter Tryz.func162, Tryz.ntmps162
  go_wp2_with (go_at_call 185; refine (bytes_any a ha ha' _).mono ?_; rintro e w1 ⟨rfl, hb1⟩)
  have hz := hb1.size
  go_loopw [4, 8] (fun v i wr => ∃ k : Nat, k ≤ 4 ∧ i = .int .i64 k ∧ wr.ownsRow (w1.heap.size + 1) 5 1 v (txt a k).length (Lib.byteCells (txt a k)) ∧ Below (w1.heap.size + 1) (w1.alloc (arr4 a)) wr) (fun _ i _ => 4 - (intOf i).toNat)
  case atStart => exact ⟨0, by omega, rfl, World.ownsRow_nil _ _ _ _, Below.refl _ _⟩
  case round =>
    obtain ⟨k, hk, rfl, hown, hbr⟩ := hrel
    have hE' : Env wr := hE.below (hb1.trans ((((Below.refl w.heap.size w1).alloc (by omega) _).trans (hbr.mono (by omega)))))
    have hsz := hbr.size
    simp only [World.size_alloc] at hsz
    have hLk := hL.out k
    rcases (show k = 4 ∨ k = 0 ∨ k = 1 ∨ k = 2 ∨ k = 3 by omega) with rfl | rfl | rfl | rfl | rfl
    · have hpos : 0 < (txt a 4).length := by rw [txt, if_neg (by omega)]; simp; omega
      rcases hown.2 with ⟨_, h0⟩ | ⟨g, cap, cur, rfl, _, _, _, _, _, _⟩
      · omega
      · have hcv := run_convert_bytes_back (P := Tryz.prog) wr 53 9 5 ⟨g, 0, none⟩ cap (txt a 4) Tryz.underlying53 Tryz.underlying5 Tryz.underlying9 (fun j hj => hown.cells (g := g) rfl j _ (by simp [Lib.byteCells, hj]))
        clear hown
        go_wp2
        go_ret
        exact ⟨rfl, hb1.trans ((((Below.refl w.heap.size w1).alloc (by omega) _).trans (hbr.mono (by omega))))⟩
    · have hc := arr4_cell a w1 wr hbr 0 (by omega)
      obtain ⟨q1, q2⟩ := hB.out 0
      go_wp2_with (go_at_call 186; refine (auint_any (w1.heap.size + 1) _ (byteAt a 0) q1 q2 _ _ _ hown (by omega) (by omega) hE'.tab).mono ?_; rintro e w2 ⟨v2, rfl, hown2, hb2⟩)
      rw [byteCells_app] at hown2
      go_roundw
      case rel => exact ⟨1, by omega, rfl, by simpa [txt] using hown2, hbr.trans hb2⟩
      case measure => simp [intOf]
    all_goals
      obtain ⟨q1, q2⟩ := hB.out 1
      obtain ⟨q3, q4⟩ := hB.out 2
      obtain ⟨q5, q6⟩ := hB.out 3
      go_wp2_with (at_builtin; refine wpList_append_own _ rfl _ _ 53 rfl (w1.heap.size + 1) 5 i0 (.int .u8 0) 1 1 Tryz.underlying53 hi hz0 hz1 hz2 rfl (by decide) _ _ _ rfl (hown.alloc _) ⟨wr.heap.size, 0, none⟩ 1 1 [Value.int .u8 46] rfl rfl ?c1 ?c2 ?c3 ?c4 ?c5 ?_)
      case c1 => exact cellsOne wr 46
      case c2 => intro u hu; simp at hu; subst hu; rfl
      case c3 => unfold maxLen; omega
      case c4 => omega
      case c5 => simp; omega
      intro v2 w2 hown2 hgrow _
      have hb2 : Below (w1.heap.size + 1) (w1.alloc (arr4 a)) w2 := (hbr.alloc (by omega) _).grown hgrow (by simp; omega) (fun k hk => (hown.lt k hk).1)
      have hE2 : Env w2 := hE.below (hb1.trans ((((Below.refl w.heap.size w1).alloc (by omega) _).trans (hb2.mono (by omega)))))
      have hc1 := arr4_cell a w1 w2 hb2 1 (by omega)
      have hc2 := arr4_cell a w1 w2 hb2 2 (by omega)
      have hc3 := arr4_cell a w1 w2 hb2 3 (by omega)
      have hz2' := hb2.size
      simp only [World.size_alloc] at hz2'
      rw [byteCells_dot] at hown2
      clear hgrow hbr hown
      go_wp2_with (go_at_call 186; refine (auint_any (w1.heap.size + 1) _ _ (by omega) (by omega) _ _ _ hown2 (by omega) (by omega) hE2.tab).mono ?_; rintro e w3 ⟨v3, rfl, hown3, hb3⟩)
      rw [byteCells_app] at hown3
      go_roundw
      case rel =>
        first
          | exact ⟨2, by omega, rfl, own_step hown3, hb2.trans hb3⟩
          | exact ⟨3, by omega, rfl, own_step hown3, hb2.trans hb3⟩
          | exact ⟨4, by omega, rfl, own_step hown3, hb2.trans hb3⟩
      case measure => simp [intOf]
open Go.RowKit
theorem dec_small {u : Nat} (h : u < 10) : Lib.decDigits u = [UInt8.ofNat (48 + u)] := by
  rw [Lib.decDigits, dif_pos h]
theorem dec_big {u : Nat} (h : ¬ u < 10) : Lib.decDigits u = Lib.decDigits (u / 10) ++ [UInt8.ofNat (48 + u % 10)] := by
  rw [Lib.decDigits, dif_neg h]
theorem awake_parse : ipOf [49, 48, 46, 48, 46, 48, 46, 49] = some 167772161 := by kernel_rfl
theorem awake_print : ipTxt 167772161 = [49, 48, 46, 48, 46, 48, 46, 49] := by
  have h10 : Lib.decDigits 10 = [49, 48] := by rw [dec_big (by omega), show 10 / 10 = 1 from rfl, dec_small (by omega)]; rfl
  have h0 : Lib.decDigits 0 = [48] := dec_small (by omega)
  have h1 : Lib.decDigits 1 = [49] := dec_small (by omega)
  have e0 : (byteAt 167772161 0).toNat = 10 := rfl
  have e1 : (byteAt 167772161 1).toNat = 0 := rfl
  have e2 : (byteAt 167772161 2).toNat = 0 := rfl
  have e3 : (byteAt 167772161 3).toNat = 1 := rfl
  unfold ipTxt
  rw [txt_step, txt_step, txt_step, txt, e0, e1, e2, e3, h10, h0, h1]
  rfl
end
section
open Go.RowKit
theorem dec_len18 : ∀ (k u : Nat), 1 ≤ k → u < 10 ^ k → (Lib.decDigits u).length ≤ k := by
  intro k
  induction k with
  | zero => intro u h _; omega
  | succ k ih =>
    intro u _ hu
    by_cases h : u < 10
    · rw [dec_small h]; simp
    · have hk : 1 ≤ k := by
        rcases Nat.eq_zero_or_pos k with rfl | h'
        · simp at hu; omega
        · exact h'
      have := ih (u / 10) hk (by rw [Nat.pow_succ] at hu; omega)
      rw [dec_big h, List.length_append, List.length_singleton]
      omega
theorem digit_conv (n : Int) (w : World) (h0 : 0 ≤ n) (h1 : n < 10) :
    (convert 53 9 (.slice (some ⟨w.heap.size, 0, none⟩) 1 1)).run Tryz.prog (w.alloc (.cells #[.int .u8 (48 + n)] 5)) = .ok (.string ⟨(Lib.decDigits n.toNat).toArray⟩) (w.alloc (.cells #[.int .u8 (48 + n)] 5)) := by
  have e : Lib.decDigits n.toNat = [UInt8.ofNat (48 + n.toNat)] := dec_small (by omega)
  have hb : ((UInt8.ofNat (48 + n.toNat)).toNat : Int) = 48 + n := by rw [UInt8.toNat_ofNat']; omega
  have hc := run_convert_bytes_back (P := Tryz.prog) (w.alloc (.cells #[.int .u8 (48 + n)] 5)) 53 9 5 ⟨w.heap.size, 0, none⟩ 1 [UInt8.ofNat (48 + n.toNat)] Tryz.underlying53 Tryz.underlying5 Tryz.underlying9 (fun j hj => by
    match j, hj with
    | 0, _ =>
      simp only [List.getElem_cons_zero, hb]
      simp [Addr.add])
  rw [e]
  exact hc
set_option maxHeartbeats 1000000 in
theorem num_small (n : Int) (w : World) (h0 : 0 ≤ n) (h1 : n < 10) :
    Calls Tryz.prog 137 #[.int .i64 n] w fun e w' => e = .returned (.string ⟨(Lib.decDigits n.toNat).toArray⟩) ∧ Below w.heap.size w w' := by
  have d0 : decide (n < 10) = true := by simpa using h1
  have hcv := digit_conv n w h0 h1
  go_enter Tryz.func137, Tryz.ntmps137
  go_wp2_with fail
  go_ret
  exact ⟨rfl, (Below.refl _ _).alloc (Nat.le_refl _) _⟩
theorem mk_append (a b : List UInt8) : (⟨a.toArray⟩ : ByteArray) ++ ⟨b.toArray⟩ = ⟨(a ++ b).toArray⟩ := by
  apply ByteArray.ext
  simp
theorem toNat_div10 (n : Int) (h : 0 ≤ n) : (n / 10).toNat = n.toNat / 10 := by omega
theorem toNat_mod10 (n : Int) (h : 0 ≤ n) : (n % 10).toNat = n.toNat % 10 := by omega
set_option maxHeartbeats 1000000 in
theorem num_any : ∀ (k : Nat) (n : Int) (w : World), 0 ≤ n → n.toNat < 10 ^ k → k ≤ 12 → 1 ≤ k →
    Calls Tryz.prog 137 #[.int .i64 n] w fun e w' => e = .returned (.string ⟨(Lib.decDigits n.toNat).toArray⟩) ∧ Below w.heap.size w w' := by
  intro k
  induction k with
  | zero => intro n w h0 h1 _ h2; omega
  | succ k ih =>
    intro n w h0 h1 hk _
    by_cases hlt : n < 10
    · exact num_small n w h0 hlt
    · have hk1 : 1 ≤ k := by
        rcases Nat.eq_zero_or_pos k with rfl | h'
        · simp at h1; omega
        · exact h'
      have hdiv : (n / 10).toNat < 10 ^ k := by rw [Nat.pow_succ] at h1; omega
      have i1 := Lib.hid (fun w => ih (n / 10) w (by omega) hdiv (by omega) hk1)
      have hn12 : n < 1000000000000 := by
        have : (10 : Nat) ^ (k + 1) ≤ 10 ^ 12 := Nat.pow_le_pow_right (by omega) (by omega)
        omega
      have hl := dec_len18 k (n / 10).toNat hk1 hdiv
      have d0 : decide (n < 10) = false := by simpa using hlt
      have hl3 : (Lib.decDigits (n % 10).toNat).length ≤ 1 := by rw [dec_small (by omega)]; simp
      have hm0 : 0 ≤ n % 10 := by omega
      have hm1 : n % 10 < 10 := by omega
      have HV : Hid (Lib.decDigits n.toNat = Lib.decDigits (n / 10).toNat ++ Lib.decDigits (n % 10).toNat) := Lib.hid (by
        rw [toNat_div10 n h0, toNat_mod10 n h0, dec_big (u := n.toNat) (by omega), dec_small (u := n.toNat % 10) (by omega)])
      clear ih h1 hdiv
      go_enter Tryz.func137, Tryz.ntmps137
      go_wp2_with fail
      refine (i1.out _).mono ?_; rintro e w1 ⟨rfl, hb1⟩
      go_wp2_with fail
      refine (num_small (n % 10) _ hm0 hm1).mono ?_; rintro e w2 ⟨rfl, hb2⟩
      go_wp2_with fail
      go_ret
      exact ⟨congrArg (fun s => Ending.returned (.string s)) ((mk_append _ _).trans (by rw [HV.out])), hb1.trans (hb2.mono hb1.size)⟩
theorem num255 (n : Int) (w : World) (h0 : 0 ≤ n) (h1 : n ≤ 99999) :
    Calls Tryz.prog 137 #[.int .i64 n] w fun e w' => e = .returned (.string ⟨(Lib.decDigits n.toNat).toArray⟩) ∧ Below w.heap.size w w' :=
  num_any 5 n w h0 (by omega) (by omega) (by omega)
theorem size_dec (n : Int) (h0 : 0 ≤ n) (h1 : n ≤ 255) : (Lib.decDigits n.toNat).length ≤ 3 := dec_len _ (by omega)
theorem ipTxt_eq (a : Int) : ipTxt a = Lib.decDigits (a / 16777216).toNat ++ [46] ++ Lib.decDigits (a / 65536 % 256).toNat ++ [46] ++ Lib.decDigits (a / 256 % 256).toNat ++ [46] ++ Lib.decDigits (a % 256).toNat := by
  unfold ipTxt
  rw [txt_step, txt_step, txt_step, txt, if_pos rfl]
  rfl
set_option maxHeartbeats 4000000 in
theorem refPrint_any (a : Int) (ha : 0 ≤ a) (ha' : a < 4294967296) (w : World) :
    Calls Tryz.prog 109 #[.int .u32 a] w fun e w' => e = .returned (.string ⟨(ipTxt a).toArray⟩) ∧ Below w.heap.size w w' := by
  have q0 := size_dec (a / 16777216) (by omega) (by omega)
  have q1 := size_dec (a / 65536 % 256) (by omega) (by omega)
  have q2 := size_dec (a / 256 % 256) (by omega) (by omega)
  have q3 := size_dec (a % 256) (by omega) (by omega)
  go_enter Tryz.func109, Tryz.ntmps109
  go_wp2_with fail
  refine (refByte0 a ha ha' _).mono ?_; rintro e w' ⟨rfl, rfl⟩
  go_wp2_with fail
  refine (num255 _ _ (by omega) (by omega)).mono ?_; rintro e w1 ⟨rfl, hb1⟩
  go_wp2_with fail
  refine (refByte1 a ha ha' _).mono ?_; rintro e w' ⟨rfl, rfl⟩
  go_wp2_with fail
  refine (num255 _ _ (by omega) (by omega)).mono ?_; rintro e w2 ⟨rfl, hb2⟩
  go_wp2_with fail
  refine (refByte2 a ha ha' _).mono ?_; rintro e w' ⟨rfl, rfl⟩
  go_wp2_with fail
  refine (num255 _ _ (by omega) (by omega)).mono ?_; rintro e w3 ⟨rfl, hb3⟩
  go_wp2_with fail
  refine (refByte3 a ha ha' _).mono ?_; rintro e w' ⟨rfl, rfl⟩
  go_wp2_with fail
  refine (num255 _ _ (by omega) (by omega)).mono ?_; rintro e w4 ⟨rfl, hb4⟩
  go_wp2_with fail
  go_ret
  refine ⟨congrArg (fun s => Ending.returned (.string s)) ?_, ((hb1.trans (hb2.mono hb1.size)).trans (hb3.mono ?_)).trans (hb4.mono ?_)⟩
  · show (_ : ByteArray) = _
    rw [ipTxt_eq, show (⟨#[46]⟩ : ByteArray) = ⟨[46].toArray⟩ from rfl]
    simp only [mk_append]
  · exact Nat.le_trans hb1.size hb2.size
  · exact Nat.le_trans (Nat.le_trans hb1.size hb2.size) hb3.size
open Go
/-! Numbers and their texts. -/
theorem num10_dec (u : Nat) : num10 (Lib.decDigits u) = u := by
  induction u using Nat.strongRecOn with
  | _ u ih =>
    by_cases h : u < 10
    · rw [dec_small h]
      have : ((UInt8.ofNat (48 + u)).toNat : Int) = 48 + u := by rw [UInt8.toNat_ofNat']; omega
      simp only [num10, List.foldl_cons, List.foldl_nil, this]
      omega
    · rw [dec_big h, num10_snoc, ih (u / 10) (by omega)]
      have : ((UInt8.ofNat (48 + u % 10)).toNat : Int) = 48 + (u % 10 : Nat) := by rw [UInt8.toNat_ofNat']; omega
      rw [this]
      omega
theorem dec_all (u : Nat) : (Lib.decDigits u).all isDig = true := by
  induction u using Nat.strongRecOn with
  | _ u ih =>
    by_cases h : u < 10
    · rw [dec_small h]
      simp only [List.all_cons, List.all_nil, Bool.and_true]
      refine isDig_of ?_ ?_ <;> rw [UInt8.toNat_ofNat'] <;> omega
    · rw [dec_big h, List.all_append, ih (u / 10) (by omega)]
      simp only [List.all_cons, List.all_nil, Bool.and_true, Bool.true_and]
      refine isDig_of ?_ ?_ <;> rw [UInt8.toNat_ofNat'] <;> omega
theorem dec_ne (u : Nat) : Lib.decDigits u ≠ [] := by
  by_cases h : u < 10
  · rw [dec_small h]; simp
  · rw [dec_big h]; simp
/-- The first digit: no nought, but of 0. -/
theorem dec_head (u : Nat) (hu : 0 < u) : (Lib.decDigits u).getD 0 0 ≠ 48 := by
  induction u using Nat.strongRecOn with
  | _ u ih =>
    by_cases h : u < 10
    · rw [dec_small h]
      simp only [List.getD_cons_zero]
      rw [show (48 : UInt8) = UInt8.ofNat 48 from rfl, Ne, byte_eq (by omega), UInt8.toNat_ofNat']
      omega
    · have := ih (u / 10) (by omega) (by omega)
      rw [dec_big h]
      have hl : 0 < (Lib.decDigits (u / 10)).length := List.length_pos_iff.2 (dec_ne _)
      rwa [List.getD_eq_getElem?_getD, List.getElem?_append_left hl, ← List.getD_eq_getElem?_getD]
/-- A text of digits, no nought ahead of others. -/
def canon (w : List UInt8) : Bool := !w.isEmpty && (w.all isDig && !(decide (1 < w.length) && (w.getD 0 0 == 48)))
theorem canon_iff (w : List UInt8) : canon w = true ↔ w ≠ [] ∧ w.all isDig = true ∧ ¬ (1 < w.length ∧ w.getD 0 0 = 48) := by
  unfold canon
  simp only [Bool.and_eq_true, Bool.not_eq_true', List.isEmpty_eq_false_iff, Bool.and_eq_false_iff, decide_eq_false_iff_not, beq_eq_false_iff_ne]
  constructor
  · rintro ⟨a, b, c⟩
    exact ⟨a, b, fun ⟨d, e⟩ => c.elim (fun h => h d) (fun h => h e)⟩
  · rintro ⟨a, b, c⟩
    refine ⟨a, b, ?_⟩
    by_cases h : 1 < w.length
    · exact .inr fun e => c ⟨h, e⟩
    · exact .inl h
theorem head_snoc {l : List UInt8} {c : UInt8} (h : l ≠ []) : (l ++ [c]).getD 0 0 = l.getD 0 0 := by
  have hl : 0 < l.length := List.length_pos_iff.2 h
  rw [List.getD_eq_getElem?_getD, List.getElem?_append_left hl, ← List.getD_eq_getElem?_getD]
theorem num10_pos {l : List UInt8} (h : canon l = true) (h1 : 1 < l.length ∨ l.getD 0 0 ≠ 48) : 0 < num10 l := by
  refine snocInd (P := fun l => canon l = true → (1 < l.length ∨ l.getD 0 0 ≠ 48) → 0 < num10 l) ?_ ?_ l h h1
  · intro h; simp [canon] at h
  · intro l c ih h h1
    rw [canon_iff] at h
    obtain ⟨_, ha, hz⟩ := h
    rw [List.all_append, Bool.and_eq_true] at ha
    have hc := isDig_bounds (c := c) (by simpa using ha.2)
    rw [num10_snoc]
    by_cases hl : l = []
    · subst hl
      have h48 : c ≠ 48 := by
        rcases h1 with h1 | h1
        · simp at h1
        · simpa using h1
      have : (c.toNat : Int) ≠ 48 := fun e => h48 ((byte_eq (n := 48) (by omega)).2 e)
      simp only [num10, List.foldl_nil]
      omega
    · have hh : l.getD 0 0 ≠ 48 := by
        rw [head_snoc hl] at hz
        intro e
        have hlen : 0 < l.length := List.length_pos_iff.2 hl
        exact hz ⟨by rw [List.length_append, List.length_singleton]; omega, e⟩
      have := ih ((canon_iff l).2 ⟨hl, ha.1, fun ⟨_, e⟩ => hh e⟩) (.inr hh)
      omega
/-- Such a text is its number's. -/
theorem dec_num10 (w : List UInt8) (h : canon w = true) : Lib.decDigits (num10 w).toNat = w := by
  refine snocInd (P := fun w => canon w = true → Lib.decDigits (num10 w).toNat = w) ?_ ?_ w h
  · intro h; simp [canon] at h
  · intro l c ih h
    have h' := h
    rw [canon_iff] at h
    obtain ⟨_, ha, hz⟩ := h
    rw [List.all_append, Bool.and_eq_true] at ha
    have hc := isDig_bounds (c := c) (by simpa using ha.2)
    by_cases hl : l = []
    · subst hl
      have e : num10 ([] ++ [c]) = (c.toNat : Int) - 48 := by rw [num10_snoc]; simp [num10]
      rw [e, dec_small (by omega)]
      have : UInt8.ofNat (48 + ((c.toNat : Int) - 48).toNat) = c := by
        symm
        rw [byte_eq (by omega)]
        omega
      rw [this]; rfl
    · have hh : l.getD 0 0 ≠ 48 := by
        rw [head_snoc hl] at hz
        intro e
        have hlen : 0 < l.length := List.length_pos_iff.2 hl
        exact hz ⟨by rw [List.length_append, List.length_singleton]; omega, e⟩
      have hcl : canon l = true := (canon_iff l).2 ⟨hl, ha.1, fun ⟨_, e⟩ => hh e⟩
      have hp := num10_pos hcl (.inr hh)
      rw [num10_snoc, dec_big (by omega), show (num10 l * 10 + ((c.toNat : Int) - 48)).toNat / 10 = (num10 l).toNat by omega, ih hcl]
      have : UInt8.ofNat (48 + (num10 l * 10 + ((c.toNat : Int) - 48)).toNat % 10) = c := by
        symm
        rw [byte_eq (by omega)]
        omega
      rw [this]
theorem canon_dec (u : Nat) : canon (Lib.decDigits u) = true := by
  rw [canon_iff]
  refine ⟨dec_ne u, dec_all u, ?_⟩
  rintro ⟨h1, h2⟩
  rcases Nat.eq_zero_or_pos u with rfl | hu
  · rw [dec_small (by omega)] at h1; simp at h1
  · exact dec_head u hu h2
theorem canon_of_eq (w : List UInt8) (h : Lib.decDigits (num10 w).toNat = w) : canon w = true := by rw [← h]; exact canon_dec _
/-- More digits make no less. -/
theorem num10_take_le (w : List UInt8) (h : w.all isDig = true) (k : Nat) : num10 (w.take k) ≤ num10 w := by
  refine snocInd (P := fun w => w.all isDig = true → num10 (w.take k) ≤ num10 w) ?_ ?_ w h
  · intro _; simp
  · intro l c ih h
    rw [List.all_append, Bool.and_eq_true] at h
    have hc := isDig_bounds (c := c) (by simpa using h.2)
    have hb := num10_bounds l h.1
    have := ih h.1
    rw [num10_snoc]
    rcases Nat.lt_or_ge l.length k with hk | hk
    · rw [List.take_of_length_le (by rw [List.length_append, List.length_singleton]; omega), num10_snoc]; omega
    · rw [List.take_append_of_le_length hk]; omega
theorem num10_ge_pow (w : List UInt8) (h : canon w = true) (k : Nat) (hk : k < w.length) (h1 : 1 ≤ k) : 10 ^ k ≤ num10 w := by
  refine snocInd (P := fun w => ∀ k, canon w = true → k < w.length → 1 ≤ k → 10 ^ k ≤ num10 w) ?_ ?_ w k h hk h1
  · intro k _ hk; simp at hk
  · intro l c ih k h hk h1
    rw [canon_iff] at h
    obtain ⟨_, ha, hz⟩ := h
    rw [List.all_append, Bool.and_eq_true] at ha
    have hc := isDig_bounds (c := c) (by simpa using ha.2)
    rw [List.length_append, List.length_singleton] at hk
    have hl : l ≠ [] := by rintro rfl; simp at hk; omega
    have hh : l.getD 0 0 ≠ 48 := by
      rw [head_snoc hl] at hz
      intro e
      have hlen : 0 < l.length := List.length_pos_iff.2 hl
      exact hz ⟨by rw [List.length_append, List.length_singleton]; omega, e⟩
    have hcl : canon l = true := (canon_iff l).2 ⟨hl, ha.1, fun ⟨_, e⟩ => hh e⟩
    rw [num10_snoc]
    obtain ⟨j, rfl⟩ : ∃ j, k = j + 1 := ⟨k - 1, by omega⟩
    rcases Nat.eq_zero_or_pos j with rfl | hj
    · have := num10_pos hcl (.inr hh); simp; omega
    · have := ih j hcl (by omega) hj
      rw [Int.pow_succ]; omega
/-- A number up to a greatest one, as a text. -/
def valOk (most : Int) (w : List UInt8) : Bool := canon w && decide (num10 w ≤ most)
theorem pbOk_val (w : List UInt8) : pbOk w = valOk 255 w := by
  rw [Bool.eq_iff_iff]
  unfold pbOk valOk
  rw [Bool.and_eq_true, Bool.and_eq_true, numOk_iff, canon_iff, decide_eq_true_eq]
  constructor
  · rintro ⟨⟨⟨a, b, c⟩, d⟩, e⟩
    exact ⟨⟨by rintro rfl; simp at a, d, c⟩, e⟩
  · rintro ⟨⟨a, d, c⟩, e⟩
    have hlen : 0 < w.length := List.length_pos_iff.2 a
    refine ⟨⟨⟨hlen, ?_, c⟩, d⟩, e⟩
    rcases Nat.lt_or_ge 3 w.length with h | h
    · have := num10_ge_pow w ((canon_iff w).2 ⟨a, d, c⟩) 3 h (by omega)
      omega
    · exact h
open Go
/-! Cutting at points. -/
theorem index_nil : Lib.index [] [46] = -1 := rfl
theorem index_cons (c : UInt8) (l : List UInt8) : Lib.index (c :: l) [46] = if c = 46 then 0 else if Lib.index l [46] == -1 then -1 else Lib.index l [46] + 1 := by
  rw [Lib.index]
  by_cases h : c = 46
  · subst h; simp
  · have : ([46] : List UInt8).isPrefixOf (c :: l) = false := by simp [List.isPrefixOf]; exact fun e => h e.symm
    rw [this, if_neg h]; rfl
theorem cutD_nil : cutD [] = ([], [], false) := rfl
theorem cutD_cons (c : UInt8) (l : List UInt8) : cutD (c :: l) = if c = 46 then ([], l, true) else (c :: (cutD l).1, (cutD l).2.1, (cutD l).2.2) := by
  unfold cutD Lib.cut
  rw [index_cons]
  have hg := Lib.index_ge l [46]
  by_cases h : c = 46
  · simp [h]
  · rw [if_neg h, if_neg h]
    by_cases h2 : Lib.index l [46] = -1
    · simp [h2]
    · have h3 : 0 ≤ Lib.index l [46] := by omega
      have h4 : (Lib.index l [46] == -1) = false := by simpa using h2
      rw [h4]
      simp only [Bool.false_eq_true, if_false]
      rw [if_pos (by omega), if_pos h3]
      obtain ⟨n, hn⟩ := Int.eq_ofNat_of_zero_le h3
      rw [hn, show ((n : Int) + 1).toNat = n + 1 from by omega, Int.toNat_natCast]
      simp
theorem cutD_app (w r : List UInt8) (hw : (46 : UInt8) ∉ w) : cutD (w ++ 46 :: r) = (w, r, true) := by
  induction w with
  | nil => rw [List.nil_append, cutD_cons, if_pos rfl]
  | cons c w ih =>
    simp only [List.mem_cons, not_or] at hw
    rw [List.cons_append, cutD_cons, if_neg (fun e => hw.1 e.symm), ih hw.2]
theorem cutD_none (w : List UInt8) (hw : (46 : UInt8) ∉ w) : cutD w = (w, [], false) := by
  induction w with
  | nil => rfl
  | cons c w ih =>
    simp only [List.mem_cons, not_or] at hw
    rw [cutD_cons, if_neg (fun e => hw.1 e.symm), ih hw.2]
theorem no_dot (w : List UInt8) (h : w.all isDig = true) : (46 : UInt8) ∉ w := fun hm => by
  have := isDig_bounds (List.all_eq_true.1 h _ hm)
  simp at this
/-- The text, sign by sign: w is the piece so far, v the number, n how many pieces are done. -/
def rg : List UInt8 → List UInt8 → Int → Nat → Option Int
  | [], w, v, n => if pbOk w = true ∧ n + 1 = 4 then some (256 * v + num10 w) else none
  | c :: r, w, v, n => if c = 46 then (if pbOk w = true ∧ n + 1 ≤ 4 then rg r [] (256 * v + num10 w) (n + 1) else none) else rg r (w ++ [c]) v n
theorem rg_many (r : List UInt8) : ∀ (w : List UInt8) (v : Int) (n : Nat), 4 ≤ n → rg r w v n = none := by
  induction r with
  | nil => intro w v n h; rw [rg, if_neg (by omega)]
  | cons c r ih =>
    intro w v n h
    rw [rg]
    split
    · rw [if_neg (by omega)]
    · exact ih _ _ _ h
/-- Numbers, put together. -/
def put (v : Int) (l : List Int) : Int := l.foldl (fun v x => 256 * v + x) v
theorem rg_pl (r : List UInt8) : ∀ (w : List UInt8) (v : Int) (n m : Nat), (46 : UInt8) ∉ w → n + (m + 1) = 4 → rg r w v n = (pl (m + 1) (w ++ r)).map (put v) := by
  induction r with
  | nil =>
    intro w v n m hw hn
    rw [rg, List.append_nil, pl, cutD_none w hw]
    by_cases h1 : pbOk w = true
    · by_cases h2 : m = 0
      · subst h2
        rw [if_pos ⟨h1, by omega⟩]
        simp [h1, pl, put]
      · rw [if_neg (by omega)]
        simp [h2]
    · rw [if_neg (fun h => h1 h.1)]
      simp [h1]
  | cons c r ih =>
    intro w v n m hw hn
    rw [rg]
    by_cases hc : c = 46
    · subst hc
      rw [if_pos rfl, pl, cutD_app w r hw]
      by_cases h1 : pbOk w = true
      · rw [if_pos ⟨h1, by omega⟩]
        by_cases h2 : m = 0
        · subst h2
          rw [rg_many _ _ _ _ (by omega)]
          simp
        · obtain ⟨m, rfl⟩ : ∃ j, m = j + 1 := ⟨m - 1, by omega⟩
          rw [ih [] _ (n + 1) m (by simp) (by omega)]
          simp only [h1, Bool.true_and, List.nil_append]
          rw [if_pos (by simp), Option.map_map]
          rfl
      · rw [if_neg (fun h => h1 h.1)]
        simp [h1]
    · rw [if_neg hc, ih (w ++ [c]) v n m (by simp; exact ⟨hw, fun e => hc e.symm⟩) hn]
      simp
theorem pl_len : ∀ (n : Nat) (r : List UInt8) (l : List Int), pl n r = some l → l.length = n := by
  intro n
  induction n with
  | zero => intro r l h; simp [pl] at h; subst h; rfl
  | succ n ih =>
    intro r l h
    rw [pl] at h
    split at h
    · cases hp : pl n (cutD r).2.1 with
      | none => rw [hp] at h; simp at h
      | some t => rw [hp] at h; simp at h; subst h; simp [ih _ _ hp]
    · simp at h
/-- Both readings are one. -/
theorem rg_is (l : List UInt8) : rg l [] 0 0 = ipOf l := by
  rw [rg_pl l [] 0 0 3 (by simp) rfl, List.nil_append]
  unfold ipOf
  cases h : pl 4 l with
  | none => rfl
  | some t =>
    have := pl_len 4 l t h
    match t, this with
    | [a, b, c, d], _ =>
      simp only [Option.map_some, ipNum, put, List.foldl_cons, List.foldl_nil]
      congr 1
      omega
theorem pbOk_dec (u : Nat) (h : u ≤ 255) : pbOk (Lib.decDigits u) = true := by
  rw [pbOk_val]
  unfold valOk
  rw [canon_dec, num10_dec]
  simp; omega
/-- An address's text is read as the address. -/
theorem ipOf_txt (a : Int) (ha : 0 ≤ a) (ha' : a < 4294967296) : ipOf (ipTxt a) = some a := by
  have key : ∀ (u : Int) (n : Nat) (r : List UInt8), 0 ≤ u → u ≤ 255 → pl (n + 2) (Lib.decDigits u.toNat ++ 46 :: r) = (pl (n + 1) r).map (u :: ·) := by
    intro u n r h0 h1
    rw [pl, cutD_app _ _ (no_dot _ (dec_all _))]
    rw [if_pos (by simp [pbOk_dec u.toNat (by omega)]), num10_dec, Int.toNat_of_nonneg h0]
  have last : ∀ (u : Int), 0 ≤ u → u ≤ 255 → pl 1 (Lib.decDigits u.toNat) = some [u] := by
    intro u h0 h1
    rw [pl, cutD_none _ (no_dot _ (dec_all _)), if_pos (by simp [pbOk_dec u.toNat (by omega)]), num10_dec, Int.toNat_of_nonneg h0]
    rfl
  have e : ipTxt a = Lib.decDigits (a / 16777216).toNat ++ 46 :: (Lib.decDigits (a / 65536 % 256).toNat ++ 46 :: (Lib.decDigits (a / 256 % 256).toNat ++ 46 :: Lib.decDigits (a % 256).toNat)) := by
    unfold ipTxt
    rw [txt_step, txt_step, txt_step, txt, if_pos rfl]
    simp [byteAt]
  unfold ipOf
  rw [e, key _ _ _ (by omega) (by omega), key _ _ _ (by omega) (by omega), key _ _ _ (by omega) (by omega), last _ (by omega) (by omega)]
  simp only [Option.map_some, ipNum]
  congr 1
  omega
open Go.RowKit
theorem str_eq (b : ByteArray) : (b.toList == b.toList) = true := by simp
theorem ba_mk (b : ByteArray) : (⟨b.data.toList.toArray⟩ : ByteArray) = b := by cases b; simp
/-- What a number's text comes to. -/
def valVal (most : Int) (l : List UInt8) : Value := if valOk most l = true then .tuple #[.int .i64 (num10 l), .bool true] else .tuple #[.int .i64 0, .bool false]
theorem val_no {most : Int} {l : List UInt8} (h : ¬ valOk most l = true) : valVal most l = .tuple #[.int .i64 0, .bool false] := if_neg h
theorem val_yes {most : Int} {l : List UInt8} (h : valOk most l = true) : valVal most l = .tuple #[.int .i64 (num10 l), .bool true] := if_pos h
theorem valOk_iff (most : Int) (l : List UInt8) : valOk most l = true ↔ canon l = true ∧ num10 l ≤ most := by unfold valOk; rw [Bool.and_eq_true, decide_eq_true_eq]
set_option maxHeartbeats 4000000 in
theorem value_any (s : ByteArray) (most : Int) (h0 : 0 ≤ most) (hm : most ≤ 255) (w : World) (hs : s.size ≤ 1000) :
    Calls Tryz.prog 131 #[.string s, .int .i64 most] w fun e w' => e = .returned (valVal most s.data.toList) ∧ Below w.heap.size w w' := by
  go_enter Tryz.func131, Tryz.ntmps131
  go_wp2_with fail
  go_loopw [6, 7] (fun x i wr => ∃ k : Nat, k ≤ s.size ∧ i = .int .i64 k ∧ x = .int .i64 (num10 (s.data.toList.take k)) ∧ (s.data.toList.take k).all isDig = true ∧ num10 (s.data.toList.take k) ≤ 10 * most + 9 ∧ wr = w) (fun _ i _ => s.size - (intOf i).toNat)
  case atStart => exact ⟨0, Nat.zero_le _, rfl, rfl, rfl, by simp [num10]; omega, rfl⟩
  case round =>
    obtain ⟨k, hk, rfl, rfl, hd, hle, rfl⟩ := hrel
    have hb1 : 0 ≤ num10 (s.data.toList.take k) := (num10_bounds _ hd).1
    have HD := Lib.hid hd
    clear hd
    by_cases hlt : k < s.size
    · by_cases ha : (s[k].toNat : Int) < 48
      · have da : decide ((s[k].toNat : Int) < 48) = true := by simpa using ha
        have HV := Lib.hid (val_no (most := most) (l := s.data.toList) (fun h => not_all hlt (isDig_not (.inl ha)) ((canon_iff _).1 ((valOk_iff _ _).1 h).1).2.1))
        go_wp2_with fail
        go_ret2
        exact ⟨congrArg Ending.returned HV.out.symm, Below.refl _ _⟩
      · by_cases hc : 57 < (s[k].toNat : Int)
        · have da : decide ((s[k].toNat : Int) < 48) = false := by simpa using ha
          have dc : decide (57 < (s[k].toNat : Int)) = true := by simpa using hc
          have HV := Lib.hid (val_no (most := most) (l := s.data.toList) (fun h => not_all hlt (isDig_not (.inr hc)) ((canon_iff _).1 ((valOk_iff _ _).1 h).1).2.1))
          go_wp2_with fail
          go_ret2
          exact ⟨congrArg Ending.returned HV.out.symm, Below.refl _ _⟩
        · have da : decide ((s[k].toNat : Int) < 48) = false := by simpa using ha
          have dc : decide (57 < (s[k].toNat : Int)) = false := by simpa using hc
          by_cases hx : most < num10 (s.data.toList.take k)
          · have dx : decide (most < num10 (s.data.toList.take k)) = true := by simpa using hx
            have HV := Lib.hid (val_no (most := most) (l := s.data.toList) (fun h => by
              have h1 := (valOk_iff _ _).1 h
              have := num10_take_le _ ((canon_iff _).1 h1.1).2.1 k
              omega))
            go_wp2_with fail
            go_ret2
            exact ⟨congrArg Ending.returned HV.out.symm, Below.refl _ _⟩
          · have dx : decide (most < num10 (s.data.toList.take k)) = false := by simpa using hx
            go_wp2_with fail
            go_roundw
            case rel =>
              refine ⟨k + 1, by omega, by go_num, ?_, take_dig hlt HD.out (isDig_of ha hc), ?_, trivial⟩
              · rw [take_snoc s k hlt, num10_snoc]
                congr 1
                omega
              · rw [take_snoc s k hlt, num10_snoc]; omega
            case measure => simp [intOf]; omega
    · have ek : s.data.toList.take k = s.data.toList := List.take_of_length_le (by rw [len_of]; omega)
      have hall := HD.out
      obtain rfl : k = s.size := by omega
      rw [ek] at hb1 hle hall ⊢
      clear ek HD hlt hk
      have HA := Lib.hid hall
      clear hall
      by_cases he : s.size = 0
      · have d1 : s.toList.isEmpty = true := by rw [ByteArray.toList_eq, List.isEmpty_iff]; exact List.eq_nil_of_length_eq_zero (by rw [len_of]; exact he)
        have HV := Lib.hid (val_no (most := most) (l := s.data.toList) (fun h => ((canon_iff _).1 ((valOk_iff _ _).1 h).1).1 (by
          have : s.data.toList.length = 0 := by rw [len_of]; exact he
          exact List.eq_nil_of_length_eq_zero this)))
        clear he
        go_wp2_with fail
        go_ret2
        exact ⟨congrArg Ending.returned HV.out.symm, Below.refl _ _⟩
      · have hne : s.data.toList ≠ [] := fun e => he (by rw [← len_of, e]; rfl)
        have d1 : s.toList.isEmpty = false := by rw [ByteArray.toList_eq, List.isEmpty_eq_false_iff]; exact hne
        have HNE := Lib.hid hne
        clear hne
        by_cases hx : most < num10 s.data.toList
        · have dx : decide (most < num10 s.data.toList) = true := by simpa using hx
          have HV := Lib.hid (val_no (most := most) (l := s.data.toList) (fun h => by have := ((valOk_iff _ _).1 h).2; omega))
          go_wp2_with fail
          go_ret2
          exact ⟨congrArg Ending.returned HV.out.symm, Below.refl _ _⟩
        · have dx : decide (most < num10 s.data.toList) = false := by simpa using hx
          by_cases hd : Lib.decDigits (num10 s.data.toList).toNat = s.data.toList
          · have HV := Lib.hid (val_yes (most := most) (l := s.data.toList) ((valOk_iff _ _).2 ⟨canon_of_eq _ hd, by omega⟩))
            have HS : Hid ((⟨(Lib.decDigits (num10 s.data.toList).toNat).toArray⟩ : ByteArray) = s) := Lib.hid (by rw [hd])
            have e1 : (s.toList == s.toList) = true := str_eq s
            clear hd
            go_wp2_with fail
            refine (num255 _ _ hb1 (by omega)).mono ?_; rintro e w1 ⟨rfl, hbb⟩
            rw [HS.out]
            go_wp2_with fail
            go_ret2
            exact ⟨congrArg Ending.returned HV.out.symm, hbb⟩
          · have HV := Lib.hid (val_no (most := most) (l := s.data.toList) (fun h => hd (dec_num10 _ ((valOk_iff _ _).1 h).1)))
            have e1 : (Lib.decDigits (num10 s.data.toList).toNat == s.toList) = false := by
              rw [ByteArray.toList_eq]
              simpa using hd
            clear hd
            go_wp2_with fail
            refine (num255 _ _ hb1 (by omega)).mono ?_; rintro e w1 ⟨rfl, hbb⟩
            go_wp2_with fail
            go_ret2
            exact ⟨congrArg Ending.returned HV.out.symm, hbb⟩
theorem value_yes (s : ByteArray) (most : Int) (h0 : 0 ≤ most) (hm : most ≤ 255) (w : World) (hs : s.size ≤ 1000) (h : valOk most s.data.toList = true) :
    Calls Tryz.prog 131 #[.string s, .int .i64 most] w fun e w' => e = .returned (.tuple #[.int .i64 (num10 s.data.toList), .bool true]) ∧ Below w.heap.size w w' := by
  have := value_any s most h0 hm w hs
  rwa [val_yes h] at this
theorem value_no (s : ByteArray) (most : Int) (h0 : 0 ≤ most) (hm : most ≤ 255) (w : World) (hs : s.size ≤ 1000) (h : valOk most s.data.toList = false) :
    Calls Tryz.prog 131 #[.string s, .int .i64 most] w fun e w' => e = .returned (.tuple #[.int .i64 0, .bool false]) ∧ Below w.heap.size w w' := by
  have := value_any s most h0 hm w hs
  rwa [val_no (by simp [h])] at this
open Go.RowKit
/-- What the reference's reading comes to. -/
def refVal (o : Option Int) : Value := match o with
  | some n => .tuple #[.int .u32 n, .bool true]
  | none => .tuple #[.int .u32 0, .bool false]
theorem rg_dot {r w : List UInt8} {v : Int} {n : Nat} (h : pbOk w = true) (hn : n + 1 ≤ 4) : rg (46 :: r) w v n = rg r [] (256 * v + num10 w) (n + 1) := by
  rw [rg, if_pos rfl, if_pos ⟨h, hn⟩]
theorem rg_fail {r w : List UInt8} {v : Int} {n : Nat} (h : pbOk w = false ∨ 4 ≤ n) : rg (46 :: r) w v n = none ∧ rg [] w v n = none := by
  constructor
  · rw [rg, if_pos rfl, if_neg]
    rintro ⟨a, b⟩
    rcases h with h | h
    · simp [h] at a
    · omega
  · rw [rg, if_neg]
    rintro ⟨a, b⟩
    rcases h with h | h
    · simp [h] at a
    · omega
theorem rg_next {c : UInt8} {r w : List UInt8} {v : Int} {n : Nat} (h : c ≠ 46) : rg (c :: r) w v n = rg r (w ++ [c]) v n := by rw [rg, if_neg h]
theorem drop_cons (s : ByteArray) (k : Nat) (h : k < s.size) : s.data.toList.drop k = s[k] :: s.data.toList.drop (k + 1) := by
  rw [List.drop_eq_getElem_cons (by simpa using h)]; rfl
theorem one_extract (s : ByteArray) (k : Nat) (h : k < s.size) : (s.extract k (k + 1)).data.toList = [s[k]] := by
  rw [Lib.extract_data, drop_cons s k h, show k + 1 - k = 1 from by omega]; rfl
theorem app_list (t x : ByteArray) : (t ++ x).data.toList = t.data.toList ++ x.data.toList := by simp
theorem pow256 {m : Nat} {u x : Int} (hu : u < 256 ^ m) (hx : x ≤ 255) : 256 * u + x < 256 ^ (m + 1) := by
  rw [Int.pow_succ]; omega
theorem pow256_le {m : Nat} (h : m ≤ 4) : (256 : Int) ^ m ≤ 4294967296 := by
  match m, h with
  | 0, _ => decide
  | 1, _ => decide
  | 2, _ => decide
  | 3, _ => decide
  | 4, _ => decide
theorem slice1 (s : ByteArray) (k : Nat) (hk : k < s.size) (W : World) : (Instr.slice 9 (.string s) (some (.int .i64 (k : Int))) (some (.int .i64 ((k : Int) + 1))) none).run Tryz.prog W = .ok (.string (s.extract k (k + 1))) W := by
  rw [run_slice_string_if W 9 s .i64 .i64 k (k + 1) Tryz.underlying9, if_pos ⟨by omega, by omega⟩, if_pos ⟨by omega, by omega⟩, show ((k : Int) + 1).toNat = k + 1 from by omega, Int.toNat_natCast]
set_option maxRecDepth 100000 in
set_option maxHeartbeats 8000000 in
theorem refParse_any (s : ByteArray) (hs : s.size ≤ 600) (w : World) :
    Calls Tryz.prog 130 #[.string s] w fun e w' => e = .returned (refVal (ipOf s.data.toList)) ∧ Below w.heap.size w w' := by
  go_enter Tryz.func130, Tryz.ntmps130
  go_wp2_with fail
  go_loopw [4, 5, 6, 7] (fun v n p i wr => ∃ (k m : Nat) (u : Int) (t : ByteArray), k ≤ s.size + 1 ∧ i = .int .i64 k ∧ v = .int .i64 u ∧ n = .int .i64 m ∧ p = .string t ∧ m ≤ 4 ∧ 0 ≤ u ∧ u < 256 ^ m ∧ t.size ≤ k ∧
      Hid (ipOf s.data.toList = if k ≤ s.size then rg (s.data.toList.drop k) t.data.toList u m else if m = 4 then some u else none) ∧ Below w.heap.size w wr) (fun _ _ _ i _ => s.size + 1 - (intOf i).toNat)
  case atStart =>
    refine ⟨0, 0, 0, ByteArray.empty, by omega, rfl, rfl, rfl, rfl, by omega, by omega, by simp, by simp, Lib.hid ?_, Below.refl _ _⟩
    rw [if_pos (by omega), ← rg_is]
    rfl
  case round =>
    obtain ⟨k, m, u, t, hk, rfl, rfl, rfl, rfl, hm, hu0, hu1, ht, HR, hb⟩ := hrel
    have hp := pow256_le hm
    have hu2 : u < 4294967296 := by omega
    have HU := Lib.hid hu1
    clear hu1 hp
    by_cases hlt : k < s.size
    · have d0 : decide ((k : Int) < s.size) = true := by simp; omega
      have d00 : decide ((k : Int) ≤ s.size) = true := by simp; omega
      have HR' := HR.out
      rw [if_pos (by omega), drop_cons s k hlt] at HR'
      by_cases hc : s[k] = 46
      · have d1 : ((s[k].toNat : Int) != 46) = false := by rw [hc]; rfl
        rw [hc] at HR'
        by_cases hv : pbOk t.data.toList = true
        · have hv' := hv
          rw [pbOk_val] at hv'
          have hnb := pbOk_bounds hv
          obtain ⟨n1, n2⟩ := hnb
          by_cases h4 : m = 4
          · have HV : Hid (refVal (ipOf s.data.toList) = .tuple #[.int .u32 0, .bool false]) := Lib.hid (by rw [HR', (rg_fail (.inr (by omega))).1]; rfl)
            have d4 : decide (4 < (m : Int) + 1) = true := by simp; omega
            clear HR HR' hv hc h4
            go_wp2_with fail
            refine (value_yes t 255 (by omega) (by omega) _ (by omega) hv').mono ?_; rintro e w1 ⟨rfl, hb1⟩
            go_wp2_with fail
            go_ret2
            exact ⟨congrArg Ending.returned HV.out.symm, hb.trans (hb1.mono hb.size)⟩
          · have HN : Hid (ipOf s.data.toList = rg (s.data.toList.drop (k + 1)) [] (256 * u + num10 t.data.toList) (m + 1)) := Lib.hid (by rw [HR', rg_dot hv (by omega)])
            have HW := Lib.hid (pow256 HU.out n2)
            have hm4 : m < 4 := by omega
            clear HR HR' hv hc h4
            go_wp2_with fail
            refine (value_yes t 255 (by omega) (by omega) _ (by omega) hv').mono ?_; rintro e w1 ⟨rfl, hb1⟩
            go_wp2_with fail
            go_roundw
            case rel =>
              refine ⟨k + 1, m + 1, _, ByteArray.empty, by omega, by go_num, rfl, by go_num, rfl, by omega, by omega, HW.out, by simp, Lib.hid ?_, hb.trans (hb1.mono hb.size)⟩
              rw [if_pos (by omega)]
              exact HN.out
            case measure => simp [intOf]; omega
        · have hvf : pbOk t.data.toList = false := by simpa using hv
          have hv' := hvf
          rw [pbOk_val] at hv'
          have HV : Hid (refVal (ipOf s.data.toList) = .tuple #[.int .u32 0, .bool false]) := Lib.hid (by rw [HR', (rg_fail (.inl hvf)).1]; rfl)
          clear HR HR' hv hvf hc
          go_wp2_with fail
          refine (value_no t 255 (by omega) (by omega) _ (by omega) hv').mono ?_; rintro e w1 ⟨rfl, hb1⟩
          go_wp2_with fail
          go_ret2
          exact ⟨congrArg Ending.returned HV.out.symm, hb.trans (hb1.mono hb.size)⟩
      · have d1 : ((s[k].toNat : Int) != 46) = true := by
          rw [bne_iff_ne]
          intro e
          exact hc ((byte_eq (n := 46) (by omega)).2 e)
        have HN : Hid (ipOf s.data.toList = rg (s.data.toList.drop (k + 1)) (t ++ s.extract k (k + 1)).data.toList u m) := Lib.hid (by rw [HR', rg_next hc, app_list, one_extract s k hlt])
        have hsz : (t ++ s.extract k (k + 1)).size = t.size + 1 := by
          rw [ByteArray.size_append, ← len_of (s.extract k (k + 1)), one_extract s k hlt]; rfl
        have HZ := Lib.hid hsz
        have hsl := slice1 s k hlt
        clear HR HR' hc hsz
        go_wp2_with fail
        go_roundw
        case rel =>
          refine ⟨k + 1, m, u, _, by omega, by go_num, rfl, rfl, rfl, hm, hu0, HU.out, by rw [HZ.out]; omega, Lib.hid ?_, hb⟩
          rw [if_pos (by omega)]
          exact HN.out
        case measure => simp [intOf]; omega
    · by_cases hke : k = s.size
      · subst hke
        have d0 : decide ((s.size : Int) < s.size) = false := by simp
        have HR' := HR.out
        rw [if_pos (by omega), List.drop_of_length_le (by rw [len_of]; omega)] at HR'
        by_cases hv : pbOk t.data.toList = true
        · have hv' := hv
          rw [pbOk_val] at hv'
          have hnb := pbOk_bounds hv
          obtain ⟨n1, n2⟩ := hnb
          by_cases h4 : m = 4
          · have HV : Hid (refVal (ipOf s.data.toList) = .tuple #[.int .u32 0, .bool false]) := Lib.hid (by rw [HR', (rg_fail (r := []) (.inr (by omega))).2]; rfl)
            have d4 : decide (4 < (m : Int) + 1) = true := by simp; omega
            clear HR HR' hv h4
            go_wp2_with fail
            refine (value_yes t 255 (by omega) (by omega) _ (by omega) hv').mono ?_; rintro e w1 ⟨rfl, hb1⟩
            go_wp2_with fail
            go_ret2
            exact ⟨congrArg Ending.returned HV.out.symm, hb.trans (hb1.mono hb.size)⟩
          · have HN : Hid (ipOf s.data.toList = if m + 1 = 4 then some (256 * u + num10 t.data.toList) else none) := Lib.hid (by
              rw [HR', rg]
              by_cases h : m + 1 = 4
              · rw [if_pos ⟨hv, h⟩, if_pos h]
              · rw [if_neg (fun hh => h hh.2), if_neg h])
            have HW := Lib.hid (pow256 HU.out n2)
            have hm4 : m < 4 := by omega
            clear HR HR' hv h4
            go_wp2_with fail
            refine (value_yes t 255 (by omega) (by omega) _ (by omega) hv').mono ?_; rintro e w1 ⟨rfl, hb1⟩
            go_wp2_with fail
            go_roundw
            case rel =>
              refine ⟨s.size + 1, m + 1, _, ByteArray.empty, by omega, by go_num, rfl, by go_num, rfl, by omega, by omega, HW.out, by simp, Lib.hid ?_, hb.trans (hb1.mono hb.size)⟩
              rw [if_neg (by omega)]
              exact HN.out
            case measure => simp [intOf]
        · have hvf : pbOk t.data.toList = false := by simpa using hv
          have hv' := hvf
          rw [pbOk_val] at hv'
          have HV : Hid (refVal (ipOf s.data.toList) = .tuple #[.int .u32 0, .bool false]) := Lib.hid (by rw [HR', (rg_fail (r := []) (.inl hvf)).2]; rfl)
          clear HR HR' hv hvf
          go_wp2_with fail
          refine (value_no t 255 (by omega) (by omega) _ (by omega) hv').mono ?_; rintro e w1 ⟨rfl, hb1⟩
          go_wp2_with fail
          go_ret2
          exact ⟨congrArg Ending.returned HV.out.symm, hb.trans (hb1.mono hb.size)⟩
      · obtain rfl : k = s.size + 1 := by omega
        have HR' := HR.out
        rw [if_neg (by omega)] at HR'
        by_cases h4 : m = 4
        · have HV : Hid (refVal (ipOf s.data.toList) = .tuple #[.int .u32 u, .bool true]) := Lib.hid (by rw [HR', if_pos h4]; rfl)
          have d4 : ((m : Int) != 4) = false := by subst h4; rfl
          clear HR HR' h4
          go_wp2_with fail
          go_ret2
          exact ⟨congrArg Ending.returned HV.out.symm, hb⟩
        · have HV : Hid (refVal (ipOf s.data.toList) = .tuple #[.int .u32 0, .bool false]) := Lib.hid (by rw [HR', if_neg h4]; rfl)
          have d4 : ((m : Int) != 4) = true := by rw [bne_iff_ne]; omega
          clear HR HR' h4
          go_wp2_with fail
          go_ret2
          exact ⟨congrArg Ending.returned HV.out.symm, hb⟩
open Go.RowKit
theorem ip_some {o : Option Int} {n : Int} (h : o = some n) : ipVal o = .tuple #[.int .u32 n, .int .i64 0] ∧ refVal o = .tuple #[.int .u32 n, .bool true] := by subst h; exact ⟨rfl, rfl⟩
theorem ip_none {o : Option Int} (h : o = none) : ipVal o = .tuple #[.int .u32 0, .int .i64 3] ∧ refVal o = .tuple #[.int .u32 0, .bool false] := by subst h; exact ⟨rfl, rfl⟩
theorem sliceTo40 (s : ByteArray) (hs : 40 ≤ s.size) (W : World) : (Instr.slice 9 (.string s) none (some (.int .i64 40)) none).run Tryz.prog W = .ok (.string (s.extract 0 40)) W := by
  rw [run_slice_string_h W 9 s Tryz.underlying9 .i64 40 (by omega) (by omega)]; rfl
end
end Go.Proofs.YtkldglhihfjclaaGreatDoor.NM
