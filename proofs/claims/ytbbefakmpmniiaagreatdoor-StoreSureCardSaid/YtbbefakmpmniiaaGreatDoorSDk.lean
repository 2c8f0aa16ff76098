/- Joined: DkMap Dk DkApp DkGrow DkSt DkOps DkOps2 DkSync DkDel DkNames DkCrash DkCut DkLaw. -/
import Derived.Test.YtbbefakmpmniiaaGreatDoorIter
import Derived.Test.YtbbefakmpmniiaaGreatDoorSPk
import Derived.Maps.OwnOps
import Derived.Sort.KeysCollected
import Derived.StillTailTactics
import Derived.WalkSmall
import Derived.Deep.RegionHeld3
import Derived.Maps.AppendAt
import Derived.Deep.AppendSrc
import Derived.Deep.QuietTactic
import Derived.BigQuiet
import Derived.Lib.SlBytesConst
namespace Go.Proofs.YtbbefakmpmniiaaGreatDoor
section
open Go.RowKit Go.Maps
abbrev Ent := List UInt8 × Value
/-- How an element reads: as itself. -/
def Rv (v : Value) : Option (DataW Value × List MemPlace) := some (.held v, [])
def datum (fs : List Ent) : DataW Value := .map (fs.map fun p => (Lit.string p.1, DataW.held p.2))
/-- Block b holds just these entries. -/
def MapIs (w : World) (b n : Nat) (fs : List Ent) : Prop := w.ownsMap Tryz.prog 9 Rv b n (datum fs)
def getE {β : Type} (fs : List (List UInt8 × β)) (k : List UInt8) : Option β := (fs.find? (fun p => p.1 == k)).map (·.2)
def insE {β : Type} (x : List UInt8 × β) : List (List UInt8 × β) → List (List UInt8 × β)
  | [] => [x]
  | y :: r => if bytesBefore x.1 y.1 then x :: y :: r else y :: insE x r
def delE {β : Type} (k : List UInt8) (fs : List (List UInt8 × β)) : List (List UInt8 × β) := fs.filter (fun p => !(p.1 == k))
def putE {β : Type} (k : List UInt8) (v : β) (fs : List (List UInt8 × β)) : List (List UInt8 × β) := insE (k, v) (delE k fs)
theorem keyedS : Keyed Tryz.prog 9 := string_keyed Tryz.underlying9
theorem keyS {s : ByteArray} (hs : s.size ≤ maxLen) : keyOf Tryz.prog 9 (.string s) = some (.string s.data.toList) := Go.WideMaps.keyOf_string_mk Tryz.underlying9 hs
theorem insE_eq (x : Ent) : ∀ fs : List Ent, (insE x fs).map (fun p => (Lit.string p.1, DataW.held p.2)) = DataW.insert (Lit.string x.1, DataW.held x.2) (fs.map fun p => (Lit.string p.1, DataW.held p.2))
  | [] => rfl
  | y :: r => by
    rw [insE, List.map_cons, DataW.insert]
    by_cases h : bytesBefore x.1 y.1 = true
    · rw [if_pos h, if_pos (show (Lit.string x.1).before (Lit.string y.1) = true from h)]
      rfl
    · rw [if_neg h, if_neg (show ¬ (Lit.string x.1).before (Lit.string y.1) = true from h), List.map_cons, insE_eq x r]
theorem delE_eq (k : List UInt8) (fs : List Ent) : (delE k fs).map (fun p => (Lit.string p.1, DataW.held p.2)) = (fs.map fun p => (Lit.string p.1, (DataW.held p.2 : DataW Value))).filter (fun p => !p.1.sameKey (.string k)) := by
  unfold delE
  rw [List.filter_map]
  rfl
theorem datum_put (k : List UInt8) (v : Value) (fs : List Ent) : (datum fs).put (.string k) (.held v) = datum (putE k v fs) := by
  unfold datum putE
  rw [insE_eq, delE_eq]
  rfl
theorem datum_del (k : List UInt8) (fs : List Ent) : (datum fs).del (.string k) = datum (delE k fs) := by
  unfold datum
  rw [delE_eq]
  rfl
theorem datum_at (k : List UInt8) (z : DataW Value) : ∀ fs : List Ent, (datum fs).atKey (.string k) z = match getE fs k with | some v => .held v | none => z
  | [] => rfl
  | p :: r => by
    have ih := datum_at k z r
    unfold datum DataW.atKey getE at ih ⊢
    simp only [List.map_cons, List.find?_cons] at ih ⊢
    by_cases h : p.1 = k
    · have e1 : (Lit.string p.1).sameKey (Lit.string k) = true := by simp [Lit.sameKey, h]
      have e2 : (p.1 == k) = true := by simp [h]
      rw [e1, e2]
      rfl
    · have e1 : (Lit.string p.1).sameKey (Lit.string k) = false := by simp [Lit.sameKey, h]
      have e2 : (p.1 == k) = false := by simp [h]
      rw [e1, e2]
      exact ih
theorem MapIs.lt {w : World} {b n : Nat} {fs : List Ent} (h : MapIs w b n fs) : b < w.heap.size := World.ownsMap.lt h
theorem MapIs.len {w : World} {b n : Nat} {fs : List Ent} (h : MapIs w b n fs) : fs.length ≤ n := by
  obtain ⟨es, clock, hb, F, hs, hD⟩ := h
  unfold datum at hD
  injection hD with hD
  have h2 := congrArg List.length hD
  rw [List.length_map, length_sorted, List.length_map] at h2
  have h3 : es.toList.length = es.size := Array.length_toList
  omega
theorem MapIs.made (w : World) : MapIs (w.alloc (.map #[] 0)) w.heap.size 0 [] := World.ownsMap_made w _ _ _
theorem MapIs.heap {w w' : World} {b n : Nat} {fs : List Ent} (h : MapIs w b n fs) (hb : w'.heap[b]? = w.heap[b]?) : MapIs w' b n fs := by
  obtain ⟨es, clock, h1, F, hs, hD⟩ := h
  exact ⟨es, clock, hb.trans h1, F, hs, hD⟩
/-- The zero value of a file. -/
def zeroF : Value := .agg #[.slice none 0 0, .int .i64 0]
theorem zeroFile (w : World) : (zeroValue 124).run Tryz.prog w = .ok zeroF w := by kernel_rfl
theorem MapIs.look {w : World} {b n : Nat} {fs : List Ent} (h : MapIs w b n fs) {s : ByteArray} (hs : s.size ≤ maxLen) (c : Bool) :
    (Instr.lookup 90 (.map (some b)) (.string s) c).run Tryz.prog w = .ok (if c then .tuple #[(getE fs s.data.toList).getD zeroF, .bool (getE fs s.data.toList).isSome] else (getE fs s.data.toList).getD zeroF) w := by
  obtain ⟨es, clock, hb, F, hsz, hD⟩ := h
  rcases fit_look c keyedS Tryz.underlying90 (zeroFile w) hb F (keyS hs) with ⟨hrun, _, hat⟩ | ⟨e0, y, _, _, hrun, hRv, hat, _⟩
  · have h1 := hat (.held zeroF)
    have h2 := hat .nil
    rw [← hD, datum_at] at h1 h2
    cases hg : getE fs s.data.toList with
    | none => rw [hrun]; rfl
    | some v => rw [hg] at h2; cases h2
  · have h2 := hat .nil
    rw [← hD, datum_at] at h2
    have e : y = (DataW.held e0.val, []) := by unfold Rv at hRv; exact (Option.some.inj hRv).symm
    rw [e] at h2
    cases hg : getE fs s.data.toList with
    | none => rw [hg] at h2; cases h2
    | some v =>
      rw [hg] at h2
      obtain rfl : v = e0.val := DataW.held.inj h2
      rw [hrun]
      rfl
theorem MapIs.put {w : World} {b n : Nat} {fs : List Ent} (h : MapIs w b n fs) (hn : n < maxLen) {s : ByteArray} (hs : s.size ≤ maxLen) (v : Value) :
    ∃ w', (Instr.mapUpdate 90 (.map (some b)) (.string s) v).run Tryz.prog w = .ok () w' ∧ MapIs w' b (n + 1) (putE s.data.toList v fs) ∧ w.grownBy w' (some b) := by
  obtain ⟨w', hrun, h1, h2⟩ := World.ownsMap.update h keyedS Tryz.underlying90 hn (keyS hs) (show Rv v = some (.held v, []) from rfl)
  rw [datum_put] at h1
  exact ⟨w', hrun, h1, h2⟩
theorem MapIs.del {w : World} {b n : Nat} {fs : List Ent} (h : MapIs w b n fs) {s : ByteArray} (hs : s.size ≤ maxLen) (ty : TypeId) :
    ∃ w', (Builtin.delete_ #[90, 9] ty #[.map (some b), .string s]).run Tryz.prog w = .ok (.tuple #[]) w' ∧ MapIs w' b n (delE s.data.toList fs) ∧ w.grownBy w' (some b) := by
  obtain ⟨es, clock, hb, F, hsz, hD⟩ := h
  obtain ⟨es', hrun, F', hsz', hdel, _⟩ := fit_drop (w := w) (ty := ty) keyedS Tryz.underlying90 hb F (keyS hs)
  refine ⟨_, hrun, ⟨es', clock, ChangeMaps.heap_setBlock_same hb _, F', Nat.le_trans hsz' hsz, ?_⟩, ⟨rfl, rfl, rfl, by simp [ChangeMaps.setBlock], fun i _ hi => ChangeMaps.heap_setBlock_other hb _ (fun e => hi (by rw [e]))⟩⟩
  rw [hdel, ← datum_del, hD]
  rfl
/-! Names rise. -/
def Rising {β : Type} (fs : List (List UInt8 × β)) : Prop := fs.Pairwise (fun p q => bytesBefore p.1 q.1 = true)
theorem lt_of_before : ∀ {a b : List UInt8}, bytesBefore a b = true → a < b
  | [], [], h => by simp [bytesBefore] at h
  | [], _ :: _, _ => List.nil_lt_cons _ _
  | _ :: _, [], h => by simp [bytesBefore] at h
  | x :: r, y :: s, h => by
    simp only [bytesBefore, Bool.or_eq_true, Bool.and_eq_true, decide_eq_true_eq, beq_iff_eq] at h
    rw [List.cons_lt_cons_iff]
    rcases h with h | ⟨h1, h2⟩
    · exact Or.inl h
    · exact Or.inr ⟨h1, lt_of_before h2⟩
theorem le_of_before {a b : List UInt8} (h : bytesBefore a b = true) : a ≤ b := List.le_of_lt (lt_of_before h)
theorem sorted_keys {fs : List Ent} (h : Rising fs) {ss : List (List UInt8)} (hp : ss.Perm (strKeys (datum fs))) : ss.mergeSort (fun x y => decide (x ≤ y)) = fs.map (·.1) := by
  have e : strKeys (datum fs) = fs.map (·.1) := by
    show (fs.map fun p => (Lit.string p.1, (DataW.held p.2 : DataW Value))).map (fun p => strOf p.1) = _
    rw [List.map_map]; rfl
  have tr : ∀ a b c : List UInt8, leB a b = true → leB b c = true → leB a c = true := fun a b c h1 h2 => by simp only [leB, decide_eq_true_eq] at *; exact List.le_trans h1 h2
  have to : ∀ a b : List UInt8, (leB a b || leB b a) = true := fun a b => by simp only [leB, Bool.or_eq_true, decide_eq_true_eq]; exact List.le_total a b
  rw [e] at hp
  refine List.Perm.eq_of_pairwise (le := fun a b => leB a b = true) (fun a b _ _ h1 h2 => ?_) (List.pairwise_mergeSort tr to ss) ?_ ((List.mergeSort_perm ss leB).trans hp)
  · simp only [leB, decide_eq_true_eq] at h1 h2
    exact List.le_antisymm h1 h2
  · exact List.pairwise_map.2 (h.imp fun {a b} hab => by simp only [leB, decide_eq_true_eq]; exact le_of_before hab)
theorem size_datum (fs : List Ent) : Maps.size (datum fs) = fs.length := by unfold datum; rw [size_eq, List.length_map]
theorem mem_insE {β : Type} {x p : List UInt8 × β} : ∀ {fs : List (List UInt8 × β)}, p ∈ insE x fs ↔ p = x ∨ p ∈ fs
  | [] => by simp [insE]
  | y :: r => by
    rw [insE]
    split
    · simp
    · rw [List.mem_cons, mem_insE, List.mem_cons]
      constructor
      · rintro (h | h | h)
        · exact Or.inr (Or.inl h)
        · exact Or.inl h
        · exact Or.inr (Or.inr h)
      · rintro (h | h | h)
        · exact Or.inr (Or.inl h)
        · exact Or.inl h
        · exact Or.inr (Or.inr h)
theorem Rising.del {β : Type} {fs : List (List UInt8 × β)} (h : Rising fs) (k : List UInt8) : Rising (delE k fs) := List.Pairwise.filter _ h
theorem Rising.ins {β : Type} : ∀ {fs : List (List UInt8 × β)} {x : List UInt8 × β}, Rising fs → (∀ p ∈ fs, p.1 ≠ x.1) → Rising (insE x fs)
  | [], x, _, _ => by simp [insE, Rising]
  | y :: r, x, h, hne => by
    obtain ⟨h1, h2⟩ := List.pairwise_cons.1 h
    rw [insE]
    by_cases hb : bytesBefore x.1 y.1 = true
    · rw [if_pos hb]
      refine List.pairwise_cons.2 ⟨fun q hq => ?_, h⟩
      rcases List.mem_cons.1 hq with rfl | hq
      · exact hb
      · exact WideShapes.bytes_trans _ _ _ hb (h1 q hq)
    · rw [if_neg hb]
      refine List.pairwise_cons.2 ⟨fun q hq => ?_, Rising.ins h2 (fun p hp => hne p (List.mem_cons_of_mem _ hp))⟩
      rcases mem_insE.1 hq with rfl | hq
      · rcases WideAt.bytes_total _ _ (hne y List.mem_cons_self) with h' | h'
        · exact h'
        · exact absurd h' hb
      · exact h1 q hq
theorem Rising.put {β : Type} {fs : List (List UInt8 × β)} (h : Rising fs) (k : List UInt8) (v : β) : Rising (putE k v fs) :=
  Rising.ins (h.del k) fun p hp => by
    have := (List.mem_filter.1 hp).2
    simpa using this
end
section
open Go.RowKit Go.Maps
/-- A disk in block g: its map, what the map holds, and its three other fields. -/
def DiskE (w : World) (g : Nat) (mb : Option Nat) (es : List Ent) (lost armed : Bool) (left : Int) : Prop :=
  w.heap[g]? = some (.cells #[.map mb, .bool lost, .bool armed, .int .i64 left] 92 (0, 0)) ∧ (∀ b, mb = some b → MapIs w b es.length es) ∧ (mb = none → es = []) ∧ ∀ p ∈ es, ∃ ao n c su, p.2 = .agg #[.slice ao n c, .int .i64 su]
theorem MapIs.tight {w : World} {b n : Nat} {fs : List Ent} (h : MapIs w b n fs) : MapIs w b fs.length fs := by
  obtain ⟨es, clock, hb, F, hs, hD⟩ := h
  refine ⟨es, clock, hb, F, ?_, hD⟩
  unfold datum at hD
  injection hD with hD
  have h2 := congrArg List.length hD
  rw [List.length_map, length_sorted, List.length_map] at h2
  have h3 : es.toList.length = es.size := Array.length_toList
  omega
theorem look_nil {s : ByteArray} (hs : s.size ≤ maxLen) (c : Bool) (w : World) :
    (Instr.lookup 90 (.map none) (.string s) c).run Tryz.prog w = .ok (if c then .tuple #[zeroF, .bool false] else zeroF) w := by
  have hc := fun em => keyedS.check w em (keyS hs)
  rcases keyedS.find w (keyS hs) [] (by simp) with ⟨h1, _⟩ | ⟨j, e0, _, h2, _⟩
  · cases c <;> simp [Instr.lookup, run_underlying Tryz.underlying90, hc, h1, zeroFile w, Result.andThen]
  · simp at h2
theorem DiskE.keep {w w' : World} {g : Nat} {mb : Option Nat} {es : List Ent} {lost armed : Bool} {left : Int} (h : DiskE w g mb es lost armed left) (hb : Below w.heap.size w w') : DiskE w' g mb es lost armed left :=
  ⟨(hb.block g (heap_lt h.1)).trans h.1, fun b e => (h.2.1 b e).heap (hb.block b (h.2.1 b e).lt), h.2.2⟩
theorem DiskE.look {w : World} {g : Nat} {mb : Option Nat} {es : List Ent} {lost armed : Bool} {left : Int} (h : DiskE w g mb es lost armed left) {s : ByteArray} (hs : s.size ≤ maxLen) (c : Bool) :
    (Instr.lookup 90 (.map mb) (.string s) c).run Tryz.prog w = .ok (if c then .tuple #[(getE es s.data.toList).getD zeroF, .bool (getE es s.data.toList).isSome] else (getE es s.data.toList).getD zeroF) w := by
  obtain ⟨_, h1, h2, _⟩ := h
  cases mb with
  | none => rw [h2 rfl, look_nil hs c]; rfl
  | some b => exact (h1 b rfl).look hs c
theorem getE_mem {β : Type} {es : List (List UInt8 × β)} {k : List UInt8} {v : β} (h : getE es k = some v) : (k, v) ∈ es := by
  unfold getE at h
  cases hf : es.find? (fun p => p.1 == k) with
  | none => rw [hf] at h; cases h
  | some p =>
    rw [hf] at h
    have h1 := List.mem_of_find?_eq_some hf
    have h2 := List.find?_some hf
    have h3 : p.2 = v := Option.some.inj h
    have h4 : p.1 = k := by simpa using h2
    rw [← h3, ← h4]
    exact h1
theorem DiskE.got {w : World} {g : Nat} {mb : Option Nat} {es : List Ent} {lost armed : Bool} {left : Int} (h : DiskE w g mb es lost armed left) (k : List UInt8) : ∃ ao n c su, (getE es k).getD zeroF = .agg #[.slice ao n c, .int .i64 su] := by
  cases hg : getE es k with
  | none => exact ⟨_, _, _, _, rfl⟩
  | some v =>
    exact h.2.2.2 _ (getE_mem hg)
theorem dcells {w : World} {g : Nat} {a b c d : Value} {t : TypeId} (h : w.heap[g]? = some (.cells #[a, b, c, d] t (0, 0))) : w.cell? ⟨g, 0, none⟩ = some a ∧ w.cell? ⟨g, 1, none⟩ = some b ∧ w.cell? ⟨g, 2, none⟩ = some c ∧ w.cell? ⟨g, 3, none⟩ = some d := by simp [World.cell?, h]
theorem dfroz {w : World} {g : Nat} {a b c d : Value} {t : TypeId} (h : w.heap[g]? = some (.cells #[a, b, c, d] t (0, 0))) (i : Nat) : w.frozen? ⟨g, i, none⟩ = false := by simp [World.frozen?, h]
set_option maxRecDepth 100000 in
set_option maxHeartbeats 2000000 in
theorem find_any (g : Nat) (mb : Option Nat) (es : List Ent) (lost armed : Bool) (left : Int) (s : ByteArray) (w : World) (h : DiskE w g mb es lost armed left) (hs : s.size ≤ maxLen) :
    Calls Tryz.prog 53 #[.pointer (some ⟨g, 0, none⟩), .string s] w fun e w' => e = .returned (.tuple #[(getE es s.data.toList).getD zeroF, .int .i64 (if (getE es s.data.toList).isSome then 0 else 6)]) ∧ Below w.heap.size w w' := by
  have q : ∀ (w : World) (a : Option Addr), (binOp .eql 23 (.pointer a) (.pointer none)).run Tryz.prog w = .ok (.bool a.isNone) w := fun w a => by cases a <;> rfl
  obtain ⟨ao, n, c, su, hv⟩ := h.got s.data.toList
  have hL : ∀ w', Below w.heap.size w w' → (Instr.lookup 90 (.map mb) (.string s) true).run Tryz.prog w' = .ok (.tuple #[.agg #[.slice ao n c, .int .i64 su], .bool (getE es s.data.toList).isSome]) w' := fun w' hb => by
    have h2 : DiskE w' g mb es lost armed left := h.keep hb
    have := h2.look hs true
    rw [hv] at this
    exact this
  obtain ⟨c0, -⟩ := dcells h.1
  have hz := World.block_lt_of_cell? w _ c0
  have c1 : (w.alloc (.cells #[.slice none 0 0, .int .i64 0] 124)).cell? ⟨g, 0, none⟩ = some (.map mb) := by rw [World.cell?_alloc_lt w _ ⟨g, 0, none⟩ hz]; exact c0
  rw [hv]
  cases hb : (getE es s.data.toList).isSome with
  | true =>
    rw [hb] at hL
    have HL := Lib.hid hL
    have hL0 := hL (w.alloc (.cells #[.slice none 0 0, .int .i64 0] 124)) (belNew w _)
    clear hL h hv hb
    go_enter Tryz.func53, Tryz.ntmps53
    go_wp2
    refine bodyPost_ret (v := .tuple #[.agg #[.slice ao n c, .int .i64 su], .int .i64 0]) (by simp [results, Tryz.results53, go_sem]) rfl ⟨rfl, ?_⟩
    repeat (first | exact Below.refl _ _ | refine Below.setCell ?_ (by simp) _ | refine Below.alloc ?_ (by simp) _)
  | false =>
    rw [hb] at hL
    have HL := Lib.hid hL
    have hL0 := hL (w.alloc (.cells #[.slice none 0 0, .int .i64 0] 124)) (belNew w _)
    have hz0 : none = ao ∧ 0 = n ∧ 0 = c ∧ 0 = su := by
      cases hg : getE es s.data.toList with
      | none =>
        simp only [hg, zeroF, Option.getD_none, Value.agg.injEq, Array.mk.injEq, List.cons.injEq, Value.slice.injEq, Value.int.injEq, and_true, true_and] at hv
        exact ⟨hv.1.1, hv.1.2.1, hv.1.2.2, hv.2⟩
      | some v => rw [hg] at hb; cases hb
    obtain ⟨rfl, rfl, rfl, rfl⟩ := hz0
    clear hL h hv hb
    go_enter Tryz.func53, Tryz.ntmps53
    go_wp2
    refine bodyPost_ret (v := .tuple #[.agg #[.slice none 0 0, .int .i64 0], .int .i64 6]) (by simp [results, Tryz.results53, go_sem]) rfl ⟨rfl, ?_⟩
    repeat (first | exact Below.refl _ _ | refine Below.setCell ?_ (by simp) _ | refine Below.alloc ?_ (by simp) _)
set_option maxRecDepth 100000 in
theorem find_nil (s : ByteArray) (w : World) :
    Calls Tryz.prog 53 #[.pointer none, .string s] w fun e w' => e = .returned (.tuple #[zeroF, .int .i64 2]) ∧ Below w.heap.size w w' := by
  unfold zeroF
  go_enter Tryz.func53, Tryz.ntmps53
  go_wp2
  refine bodyPost_ret (v := .tuple #[.agg #[.slice none 0 0, .int .i64 0], .int .i64 2]) (by simp [results, Tryz.results53, go_sem]) rfl ⟨rfl, ?_⟩
  repeat (first | exact Below.refl _ _ | refine Below.setCell ?_ (by simp) _ | refine Below.alloc ?_ (by simp) _)
end
section
open Go.RowKit
theorem run_append_nils (w : World) (ty : TypeId) (c : Nat) : (Builtin.append_ #[70, 70] ty #[.slice none 0 0, .slice none 0 c]).run Tryz.prog w = .ok (.slice none 0 0) w := by
  kernel_rfl
theorem run_app (w : World) (ty : TypeId) (v src : Value) (xs t : List Int) (hown : Owns w 0 v xs) (hsee : Sees w src t) (hb : xs.length + t.length ≤ 100000000000) :
    ∃ v' w', (Builtin.append_ #[70, 70] ty #[v, src]).run Tryz.prog w = .ok v' w' ∧ Owns w' 0 v' (xs ++ t) ∧ w.grownBy w' v.ownBlock ∧ (v'.ownBlock = v.ownBlock ∨ v'.ownBlock = some w.heap.size) := by
  obtain ⟨i0, hi, hz0, hz1, hz2⟩ := info_parts info8
  obtain ⟨ao, c, rfl, hlc, hnil, hc⟩ := hsee
  cases ao with
  | none =>
    obtain rfl := hnil rfl
    have h0 := hown
    obtain ⟨_, ⟨rfl, hn⟩ | ⟨g, cap, cur, rfl, _, _, hnc, _⟩⟩ := hown
    · obtain rfl := List.eq_nil_of_length_eq_zero hn
      exact ⟨_, w, run_append_nils w ty c, h0, World.grownBy.refl _ _, Or.inl rfl⟩
    · have hr := run_append_room_src (P := Tryz.prog) w 70 70 ty 5 i0 Tryz.underlying70 hi g 0 xs.length cap (.slice none 0 c) 0 [] (Src.ofNil w Tryz.underlying70 c) (by omega) (fun j hj => by cases hj) (fun j hj => by cases hj)
      exact ⟨_, w, hr, by rw [List.append_nil]; exact h0, World.grownBy.refl _ _, Or.inl rfl⟩
  | some ad =>
    obtain ⟨v', w', hr, ho', hg', _, hat⟩ := run_append_own_at (P := Tryz.prog) w 0 70 ty 5 i0 (.int .u8 0) 1 1 Tryz.underlying70 hi hz0 hz1 hz2 rfl (by decide) v xs.length (cells8 xs) hown ad t.length c (cells8 t) (by simp) (fun j u hj => by
        have hjl : j < t.length := by
          have := (List.getElem?_eq_some_iff.1 hj).1
          simpa using this
        rw [getD_cells hjl] at hj
        rw [← hj]
        exact hc ad rfl j hjl) (fun u hu => by obtain ⟨z, _, rfl⟩ := List.mem_map.1 hu; rfl) (by unfold maxLen; omega) (by omega) (Nat.zero_le _)
    refine ⟨v', w', hr, ?_, hg', hat⟩
    unfold Owns cells8
    rw [List.length_append, List.map_append]
    exact ho'
theorem wpList_app {w : World} {ops : Array Oper} {rest : List Oper} {o : Oper} {a : Act} {Q : Exit → Act → World → Prop} (hgd : o.guard = none) (s x : Operand)
    (ho : o.op = .call { callee := .builtin .append, args := #[s, x], argTypes := #[70, 70] }) (v src : Value) (xs t : List Int)
    (hs : a.eval s = v) (hx : a.eval x = src) (hown : Owns w 0 v xs) (hsee : Sees w src t) (hb : xs.length + t.length ≤ 100000000000)
    (h : ∀ v' w', Owns w' 0 v' (xs ++ t) → w.grownBy w' v.ownBlock → (v'.ownBlock = v.ownBlock ∨ v'.ownBlock = some w.heap.size) → wpList Tryz.prog ops Q rest (a.put o.dst v') w') : wpList Tryz.prog ops Q (o :: rest) a w := by
  refine wpList_plain hgd fun _ hK => ?_
  obtain ⟨v', w', hr, h1, h2, h3⟩ := run_app w o.type v src xs t hown hsee hb
  unfold Oper.wp execOp
  simp only [ho, resolve, invoke, builtin, Sem.run_bind, Sem.run_pure, Result.andThen_ok, List.map_toArray, List.map_cons, List.map_nil, hs, hx, hr]
  exact hK _ _ (h v' w' h1 h2 h3)
end
section
open Go.RowKit Go.Maps
theorem wpList_putE {w : World} {ops : Array Oper} {rest : List Oper} {o : Oper} {a : Act} {Q : Exit → Act → World → Prop} (hgd : o.guard = none) (m x v : Operand)
    (ho : o.op = Op.mapUpdate 90 m x v) (b n : Nat) (fs : List Ent) (hm : a.eval m = .map (some b)) (h : MapIs w b n fs) (hn : n < maxLen) (s : ByteArray) (hs : s.size ≤ maxLen) (val : Value) (hx : a.eval x = .string s) (hv : a.eval v = val)
    (hK : ∀ w', MapIs w' b (n + 1) (putE s.data.toList val fs) → w.grownBy w' (some b) → wpList Tryz.prog ops Q rest (a.put o.dst undef) w') : wpList Tryz.prog ops Q (o :: rest) a w :=
  wpList_mapUpdate_own w hgd m x v 90 ho 9 124 keyedS Tryz.underlying90 Rv b n (datum fs) hm h hn _ val _ hx hv (keyS hs) (.held val) [] rfl
    (fun w' h1 h2 => hK w' (by rw [datum_put] at h1; exact h1) h2)
/-- What may turn. -/
def Touch (P : Nat → Prop) (w w' : World) : Prop := w'.os = w.os ∧ w'.tape = w.tape ∧ w'.output = w.output ∧ w.heap.size ≤ w'.heap.size ∧ ∀ k, k < w.heap.size → ¬ P k → w'.heap[k]? = w.heap[k]?
theorem Touch.refl (P : Nat → Prop) (w : World) : Touch P w w := ⟨rfl, rfl, rfl, Nat.le_refl _, fun _ _ _ => rfl⟩
theorem Touch.of_below {w w' : World} (P : Nat → Prop) (h : Below w.heap.size w w') : Touch P w w' := ⟨h.os, h.tape, h.output, h.size, fun k hk _ => h.block k hk⟩
theorem Touch.of_grown {w w' : World} {r : Option Nat} {P : Nat → Prop} (h : w.grownBy w' r) (hr : ∀ k, r = some k → P k) : Touch P w w' := ⟨h.os, h.tape, h.output, h.size, fun k hk hn => h.block k hk (fun e => hn (hr k e.symm))⟩
theorem Touch.trans {P Q : Nat → Prop} {a b c : World} (h : Touch P a b) (k : Touch Q b c) (hq : ∀ i, i < a.heap.size → Q i → P i) : Touch P a c :=
  ⟨k.1.trans h.1, k.2.1.trans h.2.1, k.2.2.1.trans h.2.2.1, Nat.le_trans h.2.2.2.1 k.2.2.2.1, fun i hi hn => (k.2.2.2.2 i (Nat.lt_of_lt_of_le hi h.2.2.2.1) (fun hqi => hn (hq i hi hqi))).trans (h.2.2.2.2 i hi hn)⟩
theorem Touch.mono {P Q : Nat → Prop} {a b : World} (h : Touch P a b) (hq : ∀ i, i < a.heap.size → P i → Q i) : Touch Q a b := (Touch.refl Q a).trans h hq
theorem Touch.below {P : Nat → Prop} {a b : World} {n : Nat} (h : Touch P a b) (hn : n ≤ a.heap.size) (hp : ∀ i, P i → n ≤ i) : Below n a b :=
  ⟨h.1, h.2.1, h.2.2.1, h.2.2.2.1, fun k hk => h.2.2.2.2 k (Nat.lt_of_lt_of_le hk hn) (fun hP => Nat.not_lt.2 (hp k hP) hk)⟩
theorem dset {w : World} {g : Nat} {cs : Array Value} {t : TypeId} (h : w.heap[g]? = some (.cells cs t (0, 0))) (i : Nat) (x : Value) : (w.setCell ⟨g, i, none⟩ x).heap[g]? = some (.cells (cs.setIfInBounds i x) t (0, 0)) := by
  simp [World.setCell, Array.getElem?_modify, h]
theorem MapIs.ne {w : World} {b n g : Nat} {fs : List Ent} {cs : Array Value} {t : TypeId} {r : Nat × Nat} (h : MapIs w b n fs) (hg : w.heap[g]? = some (.cells cs t r)) : b ≠ g := by
  rintro rfl
  obtain ⟨es, clock, h1, _⟩ := h
  rw [hg] at h1
  cases h1
theorem DiskE.heap {w w' : World} {g : Nat} {mb : Option Nat} {es : List Ent} {lost armed : Bool} {left : Int} (h : DiskE w g mb es lost armed left) (hg : w'.heap[g]? = w.heap[g]?) (hb : ∀ b, mb = some b → w'.heap[b]? = w.heap[b]?) : DiskE w' g mb es lost armed left :=
  ⟨hg.trans h.1, fun b e => (h.2.1 b e).heap (hb b e), h.2.2⟩
theorem own_ne_cells {w : World} {B : Nat} {v : Value} {xs : List Int} {g : Nat} {cs : Array Value} {t : TypeId} {r : Nat × Nat} (h : Owns w B v xs) (hg : w.heap[g]? = some (.cells cs t r)) (ht : t ≠ 5) : v.ownBlock ≠ some g := by
  intro hv
  obtain ⟨_, ⟨rfl, _⟩ | ⟨d, cap, cur, rfl, _, hd, _⟩⟩ := h
  · cases hv
  · have e1 : d = g := by simpa [Value.ownBlock] using hv
    subst e1
    rw [hd] at hg
    injection hg with h1
    injection h1 with _ h2
    exact ht h2.symm
theorem own_ne_map {w : World} {B b n : Nat} {v : Value} {xs : List Int} {fs : List Ent} (h : Owns w B v xs) (hm : MapIs w b n fs) : v.ownBlock ≠ some b := by
  intro hv
  obtain ⟨_, ⟨rfl, _⟩ | ⟨d, cap, cur, rfl, _, hd, _⟩⟩ := h
  · cases hv
  · have e1 : d = b := by simpa [Value.ownBlock] using hv
    exact hm.ne hd e1.symm
theorem DiskE.setLost {w : World} {g : Nat} {mb : Option Nat} {es : List Ent} {lost armed : Bool} {left : Int} (h : DiskE w g mb es lost armed left) (x : Bool) : DiskE (w.setCell ⟨g, 1, none⟩ (.bool x)) g mb es x armed left := by
  refine ⟨dset h.1 1 _, fun b e => (h.2.1 b e).heap ?_, h.2.2⟩
  exact Below.heap_setCell w _ _ _ (fun e2 => (h.2.1 b e).ne h.1 e2)
theorem DiskE.setArmed {w : World} {g : Nat} {mb : Option Nat} {es : List Ent} {lost armed : Bool} {left : Int} (h : DiskE w g mb es lost armed left) (x : Bool) : DiskE (w.setCell ⟨g, 2, none⟩ (.bool x)) g mb es lost x left := by
  refine ⟨dset h.1 2 _, fun b e => (h.2.1 b e).heap ?_, h.2.2⟩
  exact Below.heap_setCell w _ _ _ (fun e2 => (h.2.1 b e).ne h.1 e2)
theorem DiskE.setLeft {w : World} {g : Nat} {mb : Option Nat} {es : List Ent} {lost armed : Bool} {left : Int} (h : DiskE w g mb es lost armed left) (x : Int) : DiskE (w.setCell ⟨g, 3, none⟩ (.int .i64 x)) g mb es lost armed x := by
  refine ⟨dset h.1 3 _, fun b e => (h.2.1 b e).heap ?_, h.2.2⟩
  exact Below.heap_setCell w _ _ _ (fun e2 => (h.2.1 b e).ne h.1 e2)
theorem touch_set (w : World) (g i : Nat) (x : Value) : Touch (· = g) w (w.setCell ⟨g, i, none⟩ x) := Touch.of_grown (grown_set w g i x) (fun _ hk => (Option.some.inj hk).symm)
/-- Whether the disk is lost behind a write, and how many are left. -/
def lost1 (lost armed : Bool) (left : Int) : Bool := lost || (armed && left == 0)
def left1 (lost armed : Bool) (left : Int) : Int := if lost1 lost armed left = false ∧ armed = true then left - 1 else left
def errW (lost armed : Bool) (left : Int) : Int := if lost1 lost armed left then 12 else 0
set_option maxRecDepth 100000 in
set_option maxHeartbeats 2000000 in
theorem write_any (g : Nat) (mb : Option Nat) (es : List Ent) (lost armed : Bool) (left : Int) (w : World) (h : DiskE w g mb es lost armed left) (h0 : 0 ≤ left) (h1 : left ≤ 9223372036854775807) :
    Calls Tryz.prog 55 #[.pointer (some ⟨g, 0, none⟩)] w fun e w' => e = .returned (.int .i64 (errW lost armed left)) ∧ DiskE w' g mb es (lost1 lost armed left) armed (left1 lost armed left) ∧ Touch (· = g) w w' := by
  obtain ⟨c0, c1, c2, c3⟩ := dcells h.1
  have f1 := dfroz h.1 1
  have f3 := dfroz h.1 3
  cases armed with
  | false =>
    have e1 : lost1 lost false left = lost := by simp [lost1]
    have e2 : left1 lost false left = left := by simp [left1]
    rw [e1, e2]
    have HD := Lib.hid h
    clear h
    cases lost with
    | false =>
      go_enter Tryz.func55, Tryz.ntmps55
      go_wp2
      go_ret
      exact ⟨rfl, HD.out, Touch.refl _ _⟩
    | true =>
      go_enter Tryz.func55, Tryz.ntmps55
      go_wp2
      go_ret
      exact ⟨rfl, HD.out, Touch.refl _ _⟩
  | true =>
    by_cases hl : left = 0
    · subst hl
      have e1 : lost1 lost true 0 = true := by simp [lost1]
      have e2 : left1 lost true 0 = 0 := by unfold left1; rw [if_neg (by rw [e1]; simp)]
      have e3 : errW lost true 0 = 12 := if_pos e1
      rw [e1, e2, e3]
      have HD := Lib.hid (h.setLost true)
      have HT := Lib.hid (touch_set w g 1 (.bool true))
      obtain ⟨W, hW⟩ : ∃ W, W = w.setCell ⟨g, 1, none⟩ (.bool true) := ⟨_, rfl⟩
      rw [← hW] at HD HT
      obtain ⟨d0, d1, d2, d3⟩ := dcells HD.out.1
      have HW := Lib.hid hW
      clear h
      go_enter Tryz.func55, Tryz.ntmps55
      go_upto_region 3 with fail
      rw [← HW.out]
      clear hW c0 c1 c2 c3 f1 f3
      go_wp2
      go_ret
      exact ⟨rfl, HD.out, HT.out⟩
    · have b0 : (left == 0) = false := by simpa using hl
      have e1 : lost1 lost true left = lost := by simp [lost1, b0]
      have s1 : IntKind.i64.wrap (left - 1) = left - 1 := IntWalk.i64_in _ (by omega)
      cases lost with
      | true =>
        have e2 : left1 true true left = left := by simp [left1, lost1]
        have e3 : errW true true left = 12 := by simp [errW, lost1]
        rw [e1, e2, e3]
        have HD := Lib.hid h
        clear h
        go_enter Tryz.func55, Tryz.ntmps55
        go_wp2
        go_ret
        exact ⟨rfl, HD.out, Touch.refl _ _⟩
      | false =>
        have e2 : left1 false true left = left - 1 := by simp [left1, lost1, b0]
        have e3 : errW false true left = 0 := by simp [errW, lost1, b0]
        rw [e1, e2, e3]
        have HD := Lib.hid (h.setLeft (left - 1))
        have HT := Lib.hid (touch_set w g 3 (.int .i64 (left - 1)))
        clear h
        go_enter Tryz.func55, Tryz.ntmps55
        go_wp2
        go_ret
        exact ⟨rfl, HD.out, HT.out⟩
theorem eqNilMap (w : World) (mb : Option Nat) : (binOp .eql 90 (.map mb) (.map none)).run Tryz.prog w = .ok (.bool mb.isNone) w := by cases mb <;> kernel_rfl
def GrowPost (w : World) (g : Nat) (mb : Option Nat) (es : List Ent) (lost armed : Bool) (left : Int) (k : List UInt8) (sv : Value) (su : Int) (xs t : List Int) (e : Ending) (w' : World) : Prop :=
  ∃ mb' sv', e = .returned (.tuple #[]) ∧ DiskE w' g mb' (putE k (.agg #[sv', .int .i64 su]) es) lost armed left ∧ Owns w' 0 sv' (xs ++ t) ∧ (mb' = mb ∨ mb = none ∧ ∃ b, mb' = some b ∧ w.heap.size ≤ b) ∧ (sv'.ownBlock = sv.ownBlock ∨ ∃ d, sv'.ownBlock = some d ∧ w.heap.size ≤ d) ∧
    Touch (fun i => i = g ∨ some i = mb ∨ sv.ownBlock = some i) w w'
theorem DiskE.put {w w' : World} {g : Nat} {b : Nat} {es : List Ent} {lost armed : Bool} {left : Int} (h : DiskE w g (some b) es lost armed left) (n : Nat) (k : List UInt8) (ao : Option Addr) (m c : Nat) (su : Int) (hm : MapIs w' b n (putE k (.agg #[.slice ao m c, .int .i64 su]) es)) (hg : w.grownBy w' (some b)) : DiskE w' g (some b) (putE k (.agg #[.slice ao m c, .int .i64 su]) es) lost armed left := by
  have hne := (h.2.1 b rfl).ne h.1
  refine ⟨(hg.block g (heap_lt h.1) (fun e => hne (Option.some.inj e).symm)).trans h.1, fun b' e => (by cases e; exact hm.tight), (fun e => by cases e), fun p hp => ?_⟩
  rcases mem_insE.1 hp with rfl | hp
  · exact ⟨ao, m, c, su, rfl⟩
  · exact h.2.2.2 p (List.mem_filter.1 hp).1
set_option maxRecDepth 100000 in
set_option maxHeartbeats 4000000 in
theorem grow_any (g : Nat) (mb : Option Nat) (es : List Ent) (lost armed : Bool) (left : Int) (s : ByteArray) (src sv : Value) (su : Int) (xs t : List Int) (w : World) (h : DiskE w g mb es lost armed left) (hs : s.size ≤ maxLen) (hn : es.length ≤ 1000000)
    (hv : (getE es s.data.toList).getD zeroF = .agg #[sv, .int .i64 su]) (ho : Owns w 0 sv xs) (hsee : Sees w src t) (hb : xs.length + t.length ≤ 100000000000) :
    Calls Tryz.prog 56 #[.pointer (some ⟨g, 0, none⟩), .string s, src] w (GrowPost w g mb es lost armed left s.data.toList sv su xs t) := by
  have hN := fun w => eqNilMap w mb
  obtain ⟨c0, c1, c2, c3⟩ := dcells h.1
  have f0 := dfroz h.1 0
  have hz : g < w.heap.size := heap_lt h.1
  cases mb with
  | none =>
    have hE := h.2.2.1 rfl
    subst hE
    obtain ⟨ao, c, rfl, -⟩ := id ho.sees
    have hsg : ∀ a, src = .slice (some a) t.length 0 → True := fun _ _ => trivial
    have hmm := @run_makeMap Tryz.prog
    have hM0 := MapIs.made w
    obtain ⟨U, hU⟩ : ∃ U, U = w.setCell ⟨g, 0, none⟩ (.map (some w.heap.size)) := ⟨_, rfl⟩
    have hUs : U.heap.size = w.heap.size := by rw [hU]; simp [World.setCell]
    have hUg : U.heap[g]? = some (.cells #[.map (some w.heap.size), .bool lost, .bool armed, .int .i64 left] 92 (0, 0)) := by rw [hU]; exact dset h.1 0 _
    have hUT : Touch (· = g) w U := by rw [hU]; exact touch_set w g 0 _
    obtain ⟨V, hV⟩ : ∃ V, V = U.alloc (.map #[] 0) := ⟨_, rfl⟩
    obtain ⟨b, hbe⟩ : ∃ b, b = w.heap.size := ⟨_, rfl⟩
    have hM0 : MapIs V b 0 [] := by rw [hV, hbe, ← hUs]; exact MapIs.made U
    have hDV : DiskE V g (some b) [] lost armed left := by
      refine ⟨?_, (fun b' e => (by cases e; exact hM0)), (fun e => by cases e), (fun p hp => by cases hp)⟩
      rw [hV, hbe]
      exact (Below.heap_alloc U _ g (by omega)).trans hUg
    have hTV : Touch (· = g) w V := by
      rw [hV]
      exact hUT.trans (Touch.of_below (fun _ => False) (belNew U _)) (fun _ _ h => h.elim)
    have hkV : ∀ d, d < w.heap.size → d ≠ g → V.heap[d]? = w.heap[d]? := fun d hd hn => hTV.2.2.2.2 d hd hn
    have hoV : Owns V 0 (.slice ao xs.length c) xs := by
      have hneg := own_ne_cells ho h.1 (by decide)
      refine ⟨ho.1, ho.2.imp id fun ⟨g', cap, cur, e1, e2, e3, r⟩ => ⟨g', cap, cur, e1, e2, (hkV g' (heap_lt e3) (fun e => hneg (by rw [e1, ← e]; rfl))).trans e3, r⟩⟩
    have hsV : Sees V src t := by
      obtain ⟨bo, cb, rfl, h1, h2, h3⟩ := hsee
      refine ⟨bo, cb, rfl, h1, h2, fun a ha i hi => ?_⟩
      have h4 := h3 a ha i hi
      rw [World.cell?_of_block (w := w) (hkV _ (cell_lt8 h4) (fun e => by
        simp [World.cell?, e, h.1] at h4
        obtain ⟨_, h5⟩ := h4
        generalize (a.add i).off = oo at h5
        rcases oo with _ | _ | _ | _ | oo <;> simp at h5))]
      exact h4
    have HFin : Hid (∀ e w', GrowPost V g (some b) [] lost armed left s.data.toList (.slice ao xs.length c) su xs t e w' → GrowPost w g none [] lost armed left s.data.toList (.slice ao xs.length c) su xs t e w') := Lib.hid (by
      rintro e w' ⟨mb', sv', h1, h2, h3, h4, h5, h6⟩
      refine ⟨mb', sv', h1, h2, h3, Or.inr ⟨rfl, ?_⟩, h5.imp id (fun ⟨d, e1, e2⟩ => ⟨d, e1, Nat.le_trans hTV.2.2.2.1 e2⟩), (hTV.mono (fun i _ e => Or.inl e)).trans h6 ?_⟩
      · rcases h4 with rfl | ⟨h4, _⟩
        · exact ⟨b, rfl, by omega⟩
        · cases h4
      · rintro i hi (e1 | e1 | e1)
        · exact Or.inl e1
        · have := Option.some.inj e1; omega
        · exact Or.inr (Or.inr e1))
    have HV := Lib.hid (And.intro hV (And.intro hU hbe))
    have hzV : g < V.heap.size := Nat.lt_of_lt_of_le hz hTV.2.2.2.1
    have HEn := Lib.hid (And.intro c0 f0)
    have hzw := hz
    clear c1 c2 c3 hz hkV hM0 hTV h ho hsee hsg hUs hUg hUT hV hU hbe
    have h := hDV
    have ho := hoV
    have hsee := hsV
    have hz := hzV
    clear hDV hoV hsV hzV
    have hL := fun (w' : World) (hb : Below V.heap.size V w') => (h.keep hb).look hs false
    rw [hv] at hL
    have hL0 := hL V (Below.refl _ _)
    simp only [Bool.false_eq_true, if_false] at hL0
    have HD := Lib.hid h
    have HO := Lib.hid ho
    have HS := Lib.hid hsee
    clear h ho hsee hL hv
    have HL0 := Lib.hid hL0
    clear hL0
    have hB1 := belNew V (.cells #[.slice ao xs.length c, .int .i64 su] 124)
    have hoA := Owns.keep HO.out hB1
    have hsA := HS.out.keep hB1
    have hDA := HD.out.keep hB1
    have hcA : (V.alloc (.cells #[.slice ao xs.length c, .int .i64 su] 124)).heap[V.heap.size]? = some (.cells #[.slice ao xs.length c, .int .i64 su] 124 (0, 0)) := heap_alloc_new V _
    obtain ⟨W, hW⟩ : ∃ W, W = V.alloc (.cells #[.slice ao xs.length c, .int .i64 su] 124) := ⟨_, rfl⟩
    have hsz : W.heap.size = V.heap.size + 1 := by rw [hW]; simp
    rw [← hW] at hoA hsA hDA hcA hB1
    have HX := Lib.hid (And.intro hDA (And.intro hcA (And.intro hoA hsA)))
    have HBW := Lib.hid (And.intro hB1 hsz)
    have HWW := Lib.hid hW
    have hcells := dcells HD.out.1
    clear hcA hDA hB1 hsz
    go_enter Tryz.func56, Tryz.ntmps56
    go_upto_region 2 with fail
    rw [← HV.out.2.2, HV.out.2.2, ← HV.out.2.1, ← HV.out.1]
    rw [← HV.out.2.2]
    have hL0 := HL0.out
    obtain ⟨c0', -⟩ := dcells HD.out.1
    clear c0 f0 hmm
    go_upto_region 3 with fail
    rw [← HWW.out]
    clear hW c0' hcells hL0
    have q0 : W.cell? ⟨V.heap.size, 0, none⟩ = some (.slice ao xs.length c) := by simp [World.cell?, HX.out.2.1]
    go_wp2_with (first
      | (at_builtin; refine wpList_app rfl (.tmp 23) (.tmp 24) rfl (.slice ao xs.length c) src xs t rfl rfl hoA hsA hb ?_; intro v2 w2 ho2 hg2 hat2; obtain ⟨a2, c2, hv2, -⟩ := id ho2.sees; subst hv2; have hbk : w2.heap[V.heap.size]? = some (.cells #[.slice ao xs.length c, .int .i64 su] 124 (0, 0)) := (hg2.block _ (heap_lt HX.out.2.1) (fun e => own_ne_cells hoA HX.out.2.1 (by decide) e.symm)).trans HX.out.2.1; have q2 : w2.cell? ⟨V.heap.size, 0, none⟩ = some (.slice ao xs.length c) := (by simp [World.cell?, hbk]); have q3 : w2.frozen? ⟨V.heap.size, 0, none⟩ = false := (by simp [World.frozen?, hbk]); have HBK := Lib.hid hbk; clear hbk q0)
      | fail)
    rw [List.length_append] at ho2 hat2
    obtain ⟨w3, hw3⟩ : ∃ w3, w3 = w2.setCell ⟨V.heap.size, 0, none⟩ (.slice a2 (xs.length + t.length) c2) := ⟨_, rfl⟩
    rw [← hw3]
    obtain ⟨hDW, hcW, hoW, -⟩ := HX.out
    obtain ⟨hB1, hsz⟩ := HBW.out
    have n1 : g ≠ V.heap.size := Nat.ne_of_lt hz
    have n2 : b ≠ V.heap.size := Nat.ne_of_lt (HD.out.2.1 b rfl).lt
    have hD2 : DiskE w2 g (some b) ([] : List Ent) lost armed left := hDW.heap (hg2.block g (by omega) (fun e => own_ne_cells hoW hDW.1 (by decide) e.symm)) (fun b' e => by
      cases e
      exact hg2.block b (hDW.2.1 b rfl).lt (fun e => own_ne_map hoW (hDW.2.1 b rfl) e.symm))
    have hD3 : DiskE w3 g (some b) ([] : List Ent) lost armed left := by
      rw [hw3]
      exact hD2.heap (Below.heap_setCell w2 _ _ _ n1) (fun b' e => by cases e; exact Below.heap_setCell w2 _ _ _ n2)
    have hc3 : w3.heap[V.heap.size]? = some (.cells #[.slice a2 (xs.length + t.length) c2, .int .i64 su] 124 (0, 0)) := by
      rw [hw3]
      exact dset HBK.out 0 _
    have n3 := own_ne_cells ho2 HBK.out (by decide)
    have ho3 : Owns w3 0 (.slice a2 (xs.length + t.length) c2) (xs ++ t) := by
      rw [hw3]
      exact World.ownsRow.kept ho2 (grown_set w2 V.heap.size 0 _) (by
        cases hv : (Value.slice a2 (xs.length + t.length) c2).ownBlock with
        | none => exact Or.inl rfl
        | some d => exact Or.inr (fun e => n3 (hv.trans e)))
    have hT3 : Touch (fun i => i = g ∨ some i = some b ∨ (Value.slice ao xs.length c).ownBlock = some i) V w3 := by
      refine ((Touch.of_below _ hB1).trans (Touch.of_grown (P := fun i => (Value.slice ao xs.length c).ownBlock = some i) hg2 (fun k hk => hk)) (fun i _ hi => Or.inr (Or.inr hi))).trans (Q := fun i => i = V.heap.size) ?_ (fun i hi e => by omega)
      rw [hw3]
      exact touch_set w2 V.heap.size 0 _
    have hat3 : (Value.slice a2 (xs.length + t.length) c2).ownBlock = (Value.slice ao xs.length c).ownBlock ∨ ∃ d, (Value.slice a2 (xs.length + t.length) c2).ownBlock = some d ∧ V.heap.size ≤ d :=
      hat2.imp id (fun e => ⟨_, e, by omega⟩)
    obtain ⟨c0, -⟩ := dcells hD3.1
    have p0 : w3.cell? ⟨V.heap.size, 0, none⟩ = some (.slice a2 (xs.length + t.length) c2) := by simp [World.cell?, hc3]
    have p1 : w3.cell? ⟨V.heap.size, 1, none⟩ = some (.int .i64 su) := by simp [World.cell?, hc3]
    have HD3 := Lib.hid hD3
    have HO3 := Lib.hid ho3
    have HT3 := Lib.hid hT3
    have HA3 := Lib.hid hat3
    have hM := hD3.2.1 b rfl
    clear hw3 hDW hcW hoW hB1 hsz hD2 hD3 hc3 ho3 hT3 hat3 hat2 ho2 hg2 q2 q3 hoA hsA
    go_still_tail 6, (by kernel_rfl)
    change wpList _ _ _ _ _ w3.drew
    have hM2 : MapIs w3.drew b ([] : List Ent).length ([] : List Ent) := hM
    go_wp2_with (first
      | (at_mapUpdate; refine wpList_putE rfl (.tmp 30) (.tmp 31) (.tmp 32) rfl b ([] : List Ent).length ([] : List Ent) rfl hM2 (by unfold maxLen; omega) s hs (.agg #[.slice a2 (xs.length + t.length) c2, .int .i64 su]) rfl rfl ?_; intro w5 hm5 hg5)
      | fail)
    go_end0
    refine HFin.out _ _ ⟨some b, _, rfl, DiskE.put (w := w3.drew) HD3.out _ _ _ _ _ _ hm5 hg5, ?_, Or.inl rfl, HA3.out, ?_⟩
    · exact World.ownsRow.kept (w := w3.drew) HO3.out hg5 (by
        cases hv : (Value.slice a2 (xs.length + t.length) c2).ownBlock with
        | none => exact Or.inl rfl
        | some d => exact Or.inr (fun e => own_ne_map HO3.out hM (hv.trans e)))
    · exact (HT3.out.trans (Q := fun _ => False) (b := w3) (c := w3.drew) ⟨rfl, rfl, rfl, Nat.le_refl _, fun _ _ _ => rfl⟩ (fun _ _ h => h.elim)).trans (Touch.of_grown (P := fun i => i = b) hg5 (fun k hk => (Option.some.inj hk).symm)) (fun i _ e => Or.inr (Or.inl (by rw [e])))
  | some b =>
    obtain ⟨ao, c, rfl, -⟩ := id ho.sees
    have hL := fun (w' : World) (hb : Below w.heap.size w w') => (h.keep hb).look hs false
    rw [hv] at hL
    have hL0 := hL w (Below.refl _ _)
    simp only [Bool.false_eq_true, if_false] at hL0
    have HD := Lib.hid h
    have HO := Lib.hid ho
    have HS := Lib.hid hsee
    clear h ho hsee hL hv
    have hB1 := belNew w (.cells #[.slice ao xs.length c, .int .i64 su] 124)
    have hoA := Owns.keep HO.out hB1
    have hsA := HS.out.keep hB1
    have hDA := HD.out.keep hB1
    have hcA : (w.alloc (.cells #[.slice ao xs.length c, .int .i64 su] 124)).heap[w.heap.size]? = some (.cells #[.slice ao xs.length c, .int .i64 su] 124 (0, 0)) := heap_alloc_new w _
    obtain ⟨W, hW⟩ : ∃ W, W = w.alloc (.cells #[.slice ao xs.length c, .int .i64 su] 124) := ⟨_, rfl⟩
    have hsz : W.heap.size = w.heap.size + 1 := by rw [hW]; simp
    rw [← hW] at hoA hsA hDA hcA hB1
    have HX := Lib.hid (And.intro hDA (And.intro hcA (And.intro hoA hsA)))
    have HBW := Lib.hid (And.intro hB1 hsz)
    have HWW := Lib.hid hW
    have hcells := dcells HD.out.1
    clear hcA hDA hB1 hsz c1 c2 c3
    go_enter Tryz.func56, Tryz.ntmps56
    go_upto_region 3 with fail
    rw [← HWW.out]
    clear hW c0 hcells hL0 f0
    have q0 : W.cell? ⟨w.heap.size, 0, none⟩ = some (.slice ao xs.length c) := by simp [World.cell?, HX.out.2.1]
    go_wp2_with (first
      | (at_builtin; refine wpList_app rfl (.tmp 23) (.tmp 24) rfl (.slice ao xs.length c) src xs t rfl rfl hoA hsA hb ?_; intro v2 w2 ho2 hg2 hat2; obtain ⟨a2, c2, hv2, -⟩ := id ho2.sees; subst hv2; have hbk : w2.heap[w.heap.size]? = some (.cells #[.slice ao xs.length c, .int .i64 su] 124 (0, 0)) := (hg2.block _ (heap_lt HX.out.2.1) (fun e => own_ne_cells hoA HX.out.2.1 (by decide) e.symm)).trans HX.out.2.1; have q2 : w2.cell? ⟨w.heap.size, 0, none⟩ = some (.slice ao xs.length c) := (by simp [World.cell?, hbk]); have q3 : w2.frozen? ⟨w.heap.size, 0, none⟩ = false := (by simp [World.frozen?, hbk]); have HBK := Lib.hid hbk; clear hbk q0)
      | fail)
    rw [List.length_append] at ho2 hat2
    obtain ⟨w3, hw3⟩ : ∃ w3, w3 = w2.setCell ⟨w.heap.size, 0, none⟩ (.slice a2 (xs.length + t.length) c2) := ⟨_, rfl⟩
    rw [← hw3]
    obtain ⟨hDW, hcW, hoW, -⟩ := HX.out
    obtain ⟨hB1, hsz⟩ := HBW.out
    have n1 : g ≠ w.heap.size := Nat.ne_of_lt hz
    have n2 : b ≠ w.heap.size := Nat.ne_of_lt (HD.out.2.1 b rfl).lt
    have hD2 : DiskE w2 g (some b) es lost armed left := hDW.heap (hg2.block g (by omega) (fun e => own_ne_cells hoW hDW.1 (by decide) e.symm)) (fun b' e => by
      cases e
      exact hg2.block b (hDW.2.1 b rfl).lt (fun e => own_ne_map hoW (hDW.2.1 b rfl) e.symm))
    have hD3 : DiskE w3 g (some b) es lost armed left := by
      rw [hw3]
      exact hD2.heap (Below.heap_setCell w2 _ _ _ n1) (fun b' e => by cases e; exact Below.heap_setCell w2 _ _ _ n2)
    have hc3 : w3.heap[w.heap.size]? = some (.cells #[.slice a2 (xs.length + t.length) c2, .int .i64 su] 124 (0, 0)) := by
      rw [hw3]
      exact dset HBK.out 0 _
    have n3 := own_ne_cells ho2 HBK.out (by decide)
    have ho3 : Owns w3 0 (.slice a2 (xs.length + t.length) c2) (xs ++ t) := by
      rw [hw3]
      exact World.ownsRow.kept ho2 (grown_set w2 w.heap.size 0 _) (by
        cases hv : (Value.slice a2 (xs.length + t.length) c2).ownBlock with
        | none => exact Or.inl rfl
        | some d => exact Or.inr (fun e => n3 (hv.trans e)))
    have hT3 : Touch (fun i => i = g ∨ some i = some b ∨ (Value.slice ao xs.length c).ownBlock = some i) w w3 := by
      refine ((Touch.of_below _ hB1).trans (Touch.of_grown (P := fun i => (Value.slice ao xs.length c).ownBlock = some i) hg2 (fun k hk => hk)) (fun i _ hi => Or.inr (Or.inr hi))).trans (Q := fun i => i = w.heap.size) ?_ (fun i hi e => by omega)
      rw [hw3]
      exact touch_set w2 w.heap.size 0 _
    have hat3 : (Value.slice a2 (xs.length + t.length) c2).ownBlock = (Value.slice ao xs.length c).ownBlock ∨ ∃ d, (Value.slice a2 (xs.length + t.length) c2).ownBlock = some d ∧ w.heap.size ≤ d :=
      hat2.imp id (fun e => ⟨_, e, by omega⟩)
    obtain ⟨c0, -⟩ := dcells hD3.1
    have p0 : w3.cell? ⟨w.heap.size, 0, none⟩ = some (.slice a2 (xs.length + t.length) c2) := by simp [World.cell?, hc3]
    have p1 : w3.cell? ⟨w.heap.size, 1, none⟩ = some (.int .i64 su) := by simp [World.cell?, hc3]
    have HD3 := Lib.hid hD3
    have HO3 := Lib.hid ho3
    have HT3 := Lib.hid hT3
    have HA3 := Lib.hid hat3
    have hM := hD3.2.1 b rfl
    clear hw3 hDW hcW hoW hB1 hsz hD2 hD3 hc3 ho3 hT3 hat3 hat2 ho2 hg2 q2 q3 hoA hsA
    go_still_tail 6, (by kernel_rfl)
    change wpList _ _ _ _ _ w3.drew
    have hM2 : MapIs w3.drew b es.length es := hM
    go_wp2_with (first
      | (at_mapUpdate; refine wpList_putE rfl (.tmp 30) (.tmp 31) (.tmp 32) rfl b es.length es rfl hM2 (by unfold maxLen; omega) s hs (.agg #[.slice a2 (xs.length + t.length) c2, .int .i64 su]) rfl rfl ?_; intro w5 hm5 hg5)
      | fail)
    go_end0
    refine ⟨some b, _, rfl, DiskE.put (w := w3.drew) HD3.out _ _ _ _ _ _ hm5 hg5, ?_, Or.inl rfl, HA3.out, ?_⟩
    · exact World.ownsRow.kept (w := w3.drew) HO3.out hg5 (by
        cases hv : (Value.slice a2 (xs.length + t.length) c2).ownBlock with
        | none => exact Or.inl rfl
        | some d => exact Or.inr (fun e => own_ne_map HO3.out hM (hv.trans e)))
    · exact (HT3.out.trans (Q := fun _ => False) (b := w3) (c := w3.drew) ⟨rfl, rfl, rfl, Nat.le_refl _, fun _ _ _ => rfl⟩ (fun _ _ h => h.elim)).trans (Touch.of_grown (P := fun i => i = b) hg5 (fun k hk => (Option.some.inj hk).symm)) (fun i _ e => Or.inr (Or.inl (by rw [e])))
end
section
open Go.RowKit Go.Maps
abbrev FEnt := List UInt8 × (List Int × Nat)
structure DSt where
  fs : List FEnt
  lost : Bool
  armed : Bool
  left : Int
def All2 {α β : Type} (R : α → β → Prop) : List α → List β → Prop
  | [], [] => True
  | a :: l, b :: m => R a b ∧ All2 R l m
  | _, _ => False
theorem All2.imp {α β : Type} {R S : α → β → Prop} : ∀ {l : List α} {m : List β}, (∀ a ∈ l, ∀ b, R a b → S a b) → All2 R l m → All2 S l m
  | [], [], _, _ => trivial
  | a :: _, b :: _, h, ⟨h1, h2⟩ => ⟨h a List.mem_cons_self b h1, All2.imp (fun x hx => h x (List.mem_cons_of_mem _ hx)) h2⟩
theorem All2.len {α β : Type} {R : α → β → Prop} : ∀ {l : List α} {m : List β}, All2 R l m → l.length = m.length
  | [], [], _ => rfl
  | _ :: _, _ :: _, ⟨_, h2⟩ => by rw [List.length_cons, List.length_cons, All2.len h2]
section
variable {β γ : Type} {R : List UInt8 × β → List UInt8 × γ → Prop}
theorem All2.del (hR : ∀ a b, R a b → a.1 = b.1) (k : List UInt8) : ∀ {l : List (List UInt8 × β)} {m : List (List UInt8 × γ)}, All2 R l m → All2 R (delE k l) (delE k m)
  | [], [], _ => trivial
  | a :: l, b :: m, ⟨h1, h2⟩ => by
    have ih := All2.del hR k h2
    have e := hR a b h1
    unfold delE at ih ⊢
    by_cases hk : a.1 = k
    · rw [List.filter_cons_of_neg (by simp [hk]), List.filter_cons_of_neg (by simp [← e, hk])]
      exact ih
    · rw [List.filter_cons_of_pos (by simp [hk]), List.filter_cons_of_pos (by simp [← e, hk])]
      exact ⟨h1, ih⟩
theorem All2.ins (hR : ∀ a b, R a b → a.1 = b.1) {x : List UInt8 × β} {y : List UInt8 × γ} (hxy : R x y) : ∀ {l : List (List UInt8 × β)} {m : List (List UInt8 × γ)}, All2 R l m → All2 R (insE x l) (insE y m)
  | [], [], _ => ⟨hxy, trivial⟩
  | a :: l, b :: m, ⟨h1, h2⟩ => by
    have ih := All2.ins hR hxy h2
    rw [insE, insE, hR a b h1, hR x y hxy]
    split
    · exact ⟨hxy, h1, h2⟩
    · exact ⟨h1, ih⟩
theorem All2.get (hR : ∀ a b, R a b → a.1 = b.1) (k : List UInt8) : ∀ {l : List (List UInt8 × β)} {m : List (List UInt8 × γ)}, All2 R l m →
    (getE l k = none ∧ getE m k = none) ∨ ∃ v u, getE l k = some v ∧ getE m k = some u ∧ R (k, v) (k, u)
  | [], [], _ => Or.inl ⟨rfl, rfl⟩
  | a :: l, b :: m, ⟨h1, h2⟩ => by
    have ih := All2.get hR k h2
    have e := hR a b h1
    unfold getE at ih ⊢
    rw [List.find?_cons, List.find?_cons]
    by_cases hk : a.1 = k
    · have e1 : (a.1 == k) = true := by simp [hk]
      have e2 : (b.1 == k) = true := by simp [← e, hk]
      rw [e1, e2]
      refine Or.inr ⟨a.2, b.2, rfl, rfl, ?_⟩
      have e3 : a = (k, a.2) := by rw [← hk]
      have e4 : b = (k, b.2) := by rw [← hk, e]
      rw [← e3, ← e4]
      exact h1
    · have e1 : (a.1 == k) = false := by simp [hk]
      have e2 : (b.1 == k) = false := by simp [← e, hk]
      rw [e1, e2]
      exact ih
end
/-- The block of a file's bytes. -/
def blkE (e : Ent) : Option Nat := match e.2 with
  | .agg cs => (cs.getD 0 undef).ownBlock
  | _ => none
def FileOk (w : World) (P : Nat → Prop) (e : Ent) (f : FEnt) : Prop :=
  e.1 = f.1 ∧ ∃ sv, e.2 = .agg #[sv, .int .i64 (f.2.2 : Nat)] ∧ Owns w 0 sv f.2.1 ∧ okB f.2.1 ∧ f.2.2 ≤ f.2.1.length ∧ ∀ d, sv.ownBlock = some d → P d
def Apart (p q : Ent) : Prop := ∀ d, blkE p = some d → blkE q ≠ some d
theorem Apart.symm {p q : Ent} (h : Apart p q) : Apart q p := fun d hq hp => h d hp hq
/-- A disk in block g; all that is its own lies in blocks of which P holds. -/
def DiskAt (w : World) (g : Nat) (P : Nat → Prop) (D : DSt) : Prop :=
  ∃ mb es, DiskE w g mb es D.lost D.armed D.left ∧ P g ∧ (∀ b, mb = some b → P b) ∧ All2 (FileOk w P) es D.fs ∧ es.Pairwise Apart ∧ Rising es ∧ (∀ i, P i → i < w.heap.size) ∧ 0 ≤ D.left ∧ D.left ≤ 9223372036854775807
theorem FileOk.keep {w w' : World} {P Q : Nat → Prop} {e : Ent} {f : FEnt} (h : FileOk w P e f) (ht : Touch Q w w') (hq : ∀ d, blkE e = some d → ¬ Q d) {P' : Nat → Prop} (hp : ∀ d, P d → P' d) : FileOk w' P' e f := by
  obtain ⟨h1, sv, h2, h3, h4, h5, h6⟩ := h
  refine ⟨h1, sv, h2, ⟨h3.1, h3.2.imp id fun ⟨g, cap, cur, e1, e2, e3, r⟩ => ⟨g, cap, cur, e1, e2, (ht.2.2.2.2 g (heap_lt e3) (hq g ?_)).trans e3, r⟩⟩, h4, h5, fun d hd => hp d (h6 d hd)⟩
  unfold blkE
  rw [h2, e1]
  rfl
theorem FileOk.blk {w : World} {P : Nat → Prop} {e : Ent} {f : FEnt} (h : FileOk w P e f) {d : Nat} (hd : blkE e = some d) : P d := by
  obtain ⟨h1, sv, h2, h3, h4, h5, h6⟩ := h
  unfold blkE at hd
  rw [h2] at hd
  exact h6 d hd
/-- A call that leaves the disk as it is, or turns what is its own. -/
def Step (P P' : Nat → Prop) (w w' : World) : Prop := Touch P w w' ∧ ∀ i, P' i → P i ∨ w.heap.size ≤ i
theorem DiskAt.keep {w w' : World} {g : Nat} {P Q : Nat → Prop} {D : DSt} (h : DiskAt w g P D) (ht : Touch Q w w') (hq : ∀ d, P d → ¬ Q d) : DiskAt w' g P D := by
  obtain ⟨mb, es, h1, h2, h3, h4, h5, h6, h7, h8⟩ := h
  refine ⟨mb, es, h1.heap (ht.2.2.2.2 g (h7 g h2) (hq g h2)) (fun b e => ht.2.2.2.2 b (h7 b (h3 b e)) (hq b (h3 b e))), h2, h3, ?_, h5, h6, fun i hi => Nat.lt_of_lt_of_le (h7 i hi) ht.2.2.2.1, h8⟩
  exact All2.imp (fun e _ f hf => hf.keep ht (fun d hd => hq d (hf.blk hd)) (fun _ h => h)) h4
theorem DiskAt.below {w w' : World} {g : Nat} {P : Nat → Prop} {D : DSt} (h : DiskAt w g P D) (hb : Below w.heap.size w w') : DiskAt w' g P D := h.keep (Touch.of_below (fun _ => False) hb) (fun _ _ h => h)
theorem fileKey {w : World} {P : Nat → Prop} : ∀ (e : Ent) (f : FEnt), FileOk w P e f → e.1 = f.1 := fun _ _ h => h.1
theorem insE_perm {β : Type} (x : List UInt8 × β) : ∀ l : List (List UInt8 × β), (insE x l).Perm (x :: l)
  | [] => List.Perm.refl _
  | y :: r => by
    rw [insE]
    split
    · exact List.Perm.refl _
    · exact ((insE_perm x r).cons y).trans (List.Perm.swap x y r)
theorem insE_length {β : Type} (x : List UInt8 × β) (l : List (List UInt8 × β)) : (insE x l).length = l.length + 1 := by
  have := (insE_perm x l).length_eq
  simpa using this
theorem putE_length {β : Type} (k : List UInt8) (v : β) (l : List (List UInt8 × β)) : (putE k v l).length ≤ l.length + 1 := by
  unfold putE
  rw [insE_length]
  have := List.length_filter_le (fun p : List UInt8 × β => !(p.1 == k)) l
  unfold delE
  omega
/-- The footprint behind a call. -/
abbrev grow' (P : Nat → Prop) (w w' : World) : Nat → Prop := fun i => P i ∨ w.heap.size ≤ i ∧ i < w'.heap.size
theorem step_grow {P Q : Nat → Prop} {w w' : World} (h : Touch Q w w') (hq : ∀ i, Q i → P i) : Step P (grow' P w w') w w' := ⟨h.mono (fun i _ hi => hq i hi), fun _ hi => hi.imp id (fun h => h.1)⟩
theorem DiskAt.put {w w' : World} {g : Nat} {P Q : Nat → Prop} {mb mb' : Option Nat} {es : List Ent} {fs : List FEnt} {k : List UInt8} {sv : Value} {xs : List Int} {su : Nat} {lost armed : Bool} {left : Int}
    (hPg : P g) (hPb : ∀ b, mb = some b → P b) (hall : All2 (FileOk w P) es fs) (hap : es.Pairwise Apart) (hri : Rising es) (hPs : ∀ i, P i → i < w.heap.size)
    (hD : DiskE w' g mb' (putE k (.agg #[sv, .int .i64 (su : Nat)]) es) lost armed left) (hl0 : 0 ≤ left) (hl1 : left ≤ 9223372036854775807) (hmb : mb' = mb ∨ ∃ b, mb' = some b ∧ w.heap.size ≤ b) (ht : Touch Q w w')
    (hq : ∀ e ∈ es, e.1 ≠ k → ∀ d, blkE e = some d → ¬ Q d) (ho : Owns w' 0 sv xs) (hok : okB xs) (hsu : su ≤ xs.length) (hsv : ∀ d, sv.ownBlock = some d → (∃ v, getE es k = some v ∧ blkE (k, v) = some d) ∨ w.heap.size ≤ d) :
    DiskAt w' g (grow' P w w') { fs := putE k (xs, su) fs, lost := lost, armed := armed, left := left } := by
  have hsz := ht.2.2.2.1
  have hP' : ∀ d, P d → grow' P w w' d := fun d h => Or.inl h
  have hblk : ∀ e ∈ es, ∀ d, blkE e = some d → d < w.heap.size := by
    intro e he d hd
    obtain ⟨f, hf⟩ : ∃ f, FileOk w P e f := by
      clear hap hri hD hq hsv
      induction es generalizing fs with
      | nil => cases he
      | cons a l ih =>
        cases fs with
        | nil => exact hall.elim
        | cons b m =>
          rcases List.mem_cons.1 he with rfl | he
          · exact ⟨b, hall.1⟩
          · exact ih hall.2 he
    exact hPs d (hf.blk hd)
  have hnew : ∀ d, sv.ownBlock = some d → grow' P w w' d := fun d hd => by
    rcases hsv d hd with ⟨v, h1, h2⟩ | h1
    · rcases All2.get fileKey k hall with ⟨h3, _⟩ | ⟨v', u, h3, _, h5⟩
      · rw [h1] at h3; cases h3
      · rw [h1] at h3
        obtain rfl := Option.some.inj h3
        exact Or.inl (h5.blk h2)
    · refine Or.inr ⟨h1, ?_⟩
      exact (World.ownsRow.lt ho d hd).2
  refine ⟨mb', _, hD, Or.inl hPg, fun b hb => ?_, ?_, ?_, hri.put k _, fun i hi => ?_, hl0, hl1⟩
  · rcases hmb with rfl | ⟨b', e, h1⟩
    · exact Or.inl (hPb b hb)
    · rw [hb] at e
      obtain rfl := Option.some.inj e
      exact Or.inr ⟨h1, (hD.2.1 b hb).lt⟩
  · refine All2.ins fileKey ⟨rfl, sv, rfl, ho, hok, hsu, hnew⟩ ?_
    refine All2.imp (fun e he f hf => ?_) (All2.del fileKey k hall)
    have h1 := List.mem_filter.1 he
    exact hf.keep ht (hq e h1.1 (by simpa using h1.2)) hP'
  · refine (List.Perm.pairwise_iff (fun {a b} h => Apart.symm h) (insE_perm _ _)).2 (List.pairwise_cons.2 ⟨fun q hqm d hd => ?_, hap.filter _⟩)
    have h1 := List.mem_filter.1 hqm
    have hne : q.1 ≠ k := by simpa using h1.2
    intro hqd
    rcases hsv d hd with ⟨v, h2, h3⟩ | h2
    · have hm := getE_mem h2
      have hap2 : ∀ a ∈ es, ∀ b ∈ es, a ≠ b → Apart a b := fun a ha b hb hab => by
        rcases List.pairwise_iff_getElem.1 hap with hp
        obtain ⟨i, hi, rfl⟩ := List.mem_iff_getElem.1 ha
        obtain ⟨j, hj, rfl⟩ := List.mem_iff_getElem.1 hb
        rcases Nat.lt_trichotomy i j with h | h | h
        · exact hp i j hi hj h
        · subst h; exact absurd rfl hab
        · exact (hp j i hj hi h).symm
      exact hap2 _ hm _ h1.1 (fun e => hne (by rw [← e])) d h3 hqd
    · have := hblk q h1.1 d hqd
      omega
  · rcases hi with hi | hi
    · have := hPs i hi; omega
    · exact hi.2
end
section
open Go.RowKit Go.Maps
abbrev ptr (g : Nat) : Value := .pointer (some ⟨g, 0, none⟩)
theorem eqNilD (w : World) (a : Option Addr) : (binOp .eql 23 (.pointer a) (.pointer none)).run Tryz.prog w = .ok (.bool a.isNone) w := by cases a <;> kernel_rfl
theorem neNilD (w : World) (a : Option Addr) : (binOp .neq 23 (.pointer a) (.pointer none)).run Tryz.prog w = .ok (.bool a.isSome) w := by cases a <;> kernel_rfl
theorem new_disk (w : World) : Calls Tryz.prog 8 #[] w fun e w' => ∃ g, e = .returned (ptr g) ∧ DiskAt w' g (· = g) ⟨[], false, false, 0⟩ ∧ w.heap.size ≤ g ∧ Below w.heap.size w w' := by
  go_enter Tryz.func8, Tryz.ntmps8
  go_wp2
  go_ret
  refine ⟨w.heap.size, rfl, ⟨none, [], ⟨heap_alloc_new w _, (fun b h => by cases h), fun _ => rfl, fun p hp => by cases hp⟩, rfl, (fun b h => by cases h), trivial, List.Pairwise.nil, List.Pairwise.nil, (fun i hi => by simp [hi]), by simp, by simp⟩, Nat.le_refl _, belNew w _⟩
theorem arm_nil (n : Int) (w : World) : Calls Tryz.prog 19 #[.pointer none, .int .i64 n] w fun e w' => e = .returned (.tuple #[]) ∧ w = w' := by
  have q := neNilD
  go_enter Tryz.func19, Tryz.ntmps19
  go_wp2
  go_end0
  exact ⟨rfl, rfl⟩
set_option maxHeartbeats 1000000 in
theorem arm_any (g : Nat) (P : Nat → Prop) (D : DSt) (n : Int) (w : World) (h : DiskAt w g P D) (_ : -9223372036854775808 ≤ n) (hn : n ≤ 9223372036854775807) :
    Calls Tryz.prog 19 #[ptr g, .int .i64 n] w fun e w' => e = .returned (.tuple #[]) ∧ DiskAt w' g P { D with armed := true, left := max n 0 } ∧ Touch P w w' := by
  obtain ⟨mb, es, h, h2, h3, h4, h5, h6, h7, h8⟩ := h
  have q := neNilD
  obtain ⟨c0, c1, c2, c3⟩ := dcells h.1
  have f2 := dfroz h.1 2
  have f3 := dfroz h.1 3
  have hA := (h.setArmed true).setLeft (max n 0)
  have hT : Touch (· = g) w ((w.setCell ⟨g, 2, none⟩ (.bool true)).setCell ⟨g, 3, none⟩ (.int .i64 (max n 0))) := (touch_set w g 2 _).trans (touch_set _ g 3 _) (fun _ _ e => e)
  have hR : Hid (DiskAt ((w.setCell ⟨g, 2, none⟩ (.bool true)).setCell ⟨g, 3, none⟩ (.int .i64 (max n 0))) g P { D with armed := true, left := max n 0 } ∧ Touch P w ((w.setCell ⟨g, 2, none⟩ (.bool true)).setCell ⟨g, 3, none⟩ (.int .i64 (max n 0)))) := Lib.hid
    ⟨⟨mb, es, hA, h2, h3, All2.imp (fun e _ f hf => hf.keep hT (fun d hd e2 => by
        obtain ⟨_, sv, he, ho, _⟩ := hf
        have h9 := own_ne_cells ho h.1 (by decide)
        unfold blkE at hd
        rw [he] at hd
        exact h9 (hd.trans (congrArg some e2))) (fun _ h => h)) h4, h5, h6, (fun i hi => Nat.lt_of_lt_of_le (h7 i hi) hT.2.2.2.1), by simp only []; omega, by simp only []; omega⟩, hT.mono (fun i _ e => by rw [e]; exact h2)⟩
  obtain ⟨M, hM⟩ : ∃ M, M = max n 0 := ⟨_, rfl⟩
  rw [← hM] at hR
  have HM := Lib.hid hM
  clear h hA hT h4 hM
  go_enter Tryz.func19, Tryz.ntmps19
  go_wp2
  go_end0
  have hR := hR.out
  rw [HM.out] at hR
  exact ⟨rfl, hR⟩
theorem sees_touch {w w1 : World} {v : Value} {t : List Int} {g : Nat} (h : Sees w v t) (hv : t ≠ [] → ∀ d, v.ownBlock = some d → d ≠ g) (ht : Touch (· = g) w w1) : Sees w1 v t := by
  by_cases h0 : t = []
  · subst h0
    obtain ⟨ao, c, e, h1, h2, _⟩ := h
    exact ⟨ao, c, e, h1, h2, fun a _ i hi => by cases hi⟩
  · exact sees_heap h (fun d hd hlt => ht.2.2.2.2 d hlt (fun e => hv h0 d hd e))
/-- The file of a name: what lies in memory for it. -/
theorem file_of {w : World} {P : Nat → Prop} {es : List Ent} {fs : List FEnt} (h : All2 (FileOk w P) es fs) (k : List UInt8) :
    ∃ sv, (getE es k).getD zeroF = .agg #[sv, .int .i64 (((getE fs k).getD ([], 0)).2 : Nat)] ∧ Owns w 0 sv ((getE fs k).getD ([], 0)).1 ∧ okB ((getE fs k).getD ([], 0)).1 ∧ ((getE fs k).getD ([], 0)).2 ≤ ((getE fs k).getD ([], 0)).1.length ∧
      (∀ d, sv.ownBlock = some d → P d ∧ ∃ v, getE es k = some v ∧ blkE (k, v) = some d) ∧ (getE es k).isSome = (getE fs k).isSome := by
  rcases All2.get fileKey k h with ⟨h1, h2⟩ | ⟨v, u, h1, h2, h3⟩
  · rw [h1, h2]
    exact ⟨.slice none 0 0, rfl, Owns.nil _ _, (fun x hx => by cases hx), Nat.le_refl _, (fun d hd => by cases hd), rfl⟩
  · rw [h1, h2]
    obtain ⟨_, sv, e1, e2, e3, e4, e5⟩ := h3
    refine ⟨sv, e1, e2, e3, e4, fun d hd => ⟨e5 d hd, v, rfl, ?_⟩, rfl⟩
    unfold blkE
    rw [e1]
    exact hd
theorem all2_mem {w : World} {P : Nat → Prop} : ∀ {es : List Ent} {fs : List FEnt}, All2 (FileOk w P) es fs → ∀ e ∈ es, ∃ f, FileOk w P e f
  | [], [], _, _, h => by cases h
  | a :: _, b :: _, ⟨h1, h2⟩, e, he => by
    rcases List.mem_cons.1 he with rfl | he
    · exact ⟨b, h1⟩
    · exact all2_mem h2 e he
theorem apart_of {es : List Ent} (hap : es.Pairwise Apart) {a b : Ent} (ha : a ∈ es) (hb : b ∈ es) (hab : a ≠ b) : Apart a b := by
  have hp := List.pairwise_iff_getElem.1 hap
  obtain ⟨i, hi, rfl⟩ := List.mem_iff_getElem.1 ha
  obtain ⟨j, hj, rfl⟩ := List.mem_iff_getElem.1 hb
  rcases Nat.lt_trichotomy i j with h | h | h
  · exact hp i j hi hj h
  · subst h; exact absurd rfl hab
  · exact (hp j i hj hi h).symm
/-- What a disk's own blocks are that a write to the file of a name may turn. -/
def TurnQ (g : Nat) (mb : Option Nat) (sv : Value) (i : Nat) : Prop := i = g ∨ some i = mb ∨ sv.ownBlock = some i
theorem others {w : World} {g : Nat} {mb : Option Nat} {es : List Ent} {fs : List FEnt} {P : Nat → Prop} {lost armed : Bool} {left : Int} (h : DiskE w g mb es lost armed left) (hall : All2 (FileOk w P) es fs) (hap : es.Pairwise Apart) (k : List UInt8) (sv : Value)
    (hsv : ∀ d, sv.ownBlock = some d → P d ∧ ∃ v, getE es k = some v ∧ blkE (k, v) = some d) : ∀ e ∈ es, e.1 ≠ k → ∀ d, blkE e = some d → ¬ TurnQ g mb sv d := by
  intro e he hne d hd hq
  obtain ⟨f, hf⟩ := all2_mem hall e he
  obtain ⟨_, sv2, e1, e2, _⟩ := hf
  have e3 : sv2.ownBlock = some d := by unfold blkE at hd; rw [e1] at hd; exact hd
  rcases hq with hq | hq | hq
  · exact own_ne_cells e2 h.1 (by decide) (e3.trans (congrArg some hq))
  · exact own_ne_map e2 (h.2.1 d hq.symm) e3
  · obtain ⟨_, v, h1, h2⟩ := hsv d hq
    exact apart_of hap (getE_mem h1) he (fun e4 => hne (by rw [← e4])) d h2 hd
/-- What Append answers, and leaves. -/
def appD (D : DSt) (k : List UInt8) (t : List Int) : Int × DSt :=
  if D.lost = true then (12, D) else (errW D.lost D.armed D.left, { fs := putE k (((getE D.fs k).getD ([], 0)).1 ++ t, ((getE D.fs k).getD ([], 0)).2) D.fs, lost := lost1 D.lost D.armed D.left, armed := D.armed, left := left1 D.lost D.armed D.left })
theorem left1_bd {lost armed : Bool} {left : Int} (h0 : 0 ≤ left) (h1 : left ≤ 9223372036854775807) : 0 ≤ left1 lost armed left ∧ left1 lost armed left ≤ 9223372036854775807 := by
  unfold left1
  by_cases h : lost1 lost armed left = false ∧ armed = true
  · rw [if_pos h]
    obtain ⟨h2, h3⟩ := h
    have : left ≠ 0 := by
      intro e
      subst e h3
      simp [lost1] at h2
    omega
  · rw [if_neg h]; exact ⟨h0, h1⟩
set_option maxHeartbeats 1000000 in
theorem append_empty (g : Nat) (src : Value) (w : World) : Calls Tryz.prog 32 #[ptr g, .string ⟨#[]⟩, src] w fun e w' => e = .returned (.int .i64 1) ∧ w = w' := by
  have q := eqNilD
  go_enter Tryz.func32, Tryz.ntmps32
  go_wp2
  go_ret
  exact ⟨rfl, rfl⟩
theorem append_nil (s : ByteArray) (src : Value) (w : World) : Calls Tryz.prog 32 #[.pointer none, .string s, src] w fun e w' => e = .returned (.int .i64 2) ∧ w = w' := by
  have q := eqNilD
  go_enter Tryz.func32, Tryz.ntmps32
  go_wp2
  go_ret
  exact ⟨rfl, rfl⟩
set_option maxHeartbeats 2000000 in
theorem append_any (g : Nat) (P : Nat → Prop) (D : DSt) (s : ByteArray) (src : Value) (t : List Int) (w : World) (h : DiskAt w g P D) (hs : s.size ≤ maxLen) (hs0 : s.data.toList ≠ []) (hn : D.fs.length ≤ 1000000) (hb : ((getE D.fs s.data.toList).getD ([], 0)).1.length + t.length ≤ 100000000000)
    (hsee : Sees w src t) (hok : okB t) (hsrc : t ≠ [] → ∀ d, src.ownBlock = some d → d ≠ g) :
    Calls Tryz.prog 32 #[ptr g, .string s, src] w fun e w' => ∃ P', e = .returned (.int .i64 (appD D s.data.toList t).1) ∧ DiskAt w' g P' (appD D s.data.toList t).2 ∧ Step P P' w w' := by
  have HA := Lib.hid h
  obtain ⟨mb, es, h, h2, h3, h4, h5, h6, h7, h8, h9⟩ := h
  have q := eqNilD
  have hs1 : ¬ s.toList = [] := by rw [ByteArray.toList_eq]; exact hs0
  have hs2 : s.toList.isEmpty = false := by cases hh : s.toList with | nil => exact absurd hh hs1 | cons a b => rfl
  obtain ⟨c0, c1, c2, c3⟩ := dcells h.1
  cases hl : D.lost with
  | true =>
    rw [hl] at c1
    have e1 : appD D s.data.toList t = (12, D) := by unfold appD; rw [if_pos hl]
    rw [e1]
    clear h h4 hl e1
    go_enter Tryz.func32, Tryz.ntmps32
    go_wp2
    go_ret
    exact ⟨P, rfl, HA.out, Touch.refl _ _, fun i hi => Or.inl hi⟩
  | false =>
    rw [hl] at c1
    go_enter Tryz.func32, Tryz.ntmps32
    have hE := h
    rw [hl] at hE
    have HE := Lib.hid hE
    have HW := Lib.hid (write_any g mb es false D.armed D.left w hE h8 h9)
    obtain ⟨sv, hv, ho, hko, hsu, hsv, -⟩ := file_of h4 s.data.toList
    have HQ := Lib.hid (others h h4 h5 s.data.toList sv hsv)
    have hgs : Sees w src t → ∀ w1, Touch (· = g) w w1 → Sees w1 src t := fun hh w1 ht => sees_touch hh hsrc ht
    have HGS := Lib.hid hgs
    have HO : Hid (∀ w1, Touch (· = g) w w1 → Owns w1 0 sv ((getE D.fs s.data.toList).getD ([], 0)).1) := Lib.hid fun w1 ht => ⟨ho.1, ho.2.imp id fun ⟨g', cap, cur, e1, e2, e3, r⟩ => ⟨g', cap, cur, e1, e2, (ht.2.2.2.2 g' (heap_lt e3) (fun e => own_ne_cells ho h.1 (by decide) (by rw [e1, ← e]; rfl))).trans e3, r⟩⟩
    have HAll := Lib.hid (And.intro hv (And.intro h4 (And.intro hsee (And.intro hko (And.intro hsu hsv)))))
    have hlen : es.length ≤ 1000000 := by rw [All2.len h4]; exact hn
    obtain ⟨xs, hxs⟩ : ∃ xs, xs = ((getE D.fs s.data.toList).getD ([], 0)).1 := ⟨_, rfl⟩
    obtain ⟨su, hsue⟩ : ∃ su, su = ((getE D.fs s.data.toList).getD ([], 0)).2 := ⟨_, rfl⟩
    rw [← hxs] at hb HO
    rw [← hxs, ← hsue] at HAll
    have HX := Lib.hid (And.intro hxs hsue)
    clear h h4 hv ho hko hsu hsv hgs hE hxs hsue hsee
    go_wp2_with fail
    refine HW.out.mono ?_; rintro e w1 ⟨rfl, hd1, ht1⟩
    have hs1' := HGS.out HAll.out.2.2.1 w1 ht1
    have ho1 := HO.out w1 ht1
    go_wp2_with fail
    refine (grow_any g mb es _ _ _ s src sv su xs t w1 hd1 hs hlen HAll.out.1 ho1 hs1' hb).mono ?_
    rintro e w2 ⟨mb', sv', rfl, hd2, ho2, hm2, hs2, ht2⟩
    have ht : Touch (TurnQ g mb sv) w w2 := (ht1.mono (fun i _ e => Or.inl e)).trans ht2 (fun i _ h => h)
    have hz1 := ht1.2.2.2.1
    have hR : Hid (DiskAt w2 g (grow' P w w2) { fs := putE s.data.toList (xs ++ t, su) D.fs, lost := lost1 false D.armed D.left, armed := D.armed, left := left1 false D.armed D.left } ∧ Step P (grow' P w w2) w w2) := Lib.hid
      ⟨DiskAt.put h2 h3 HAll.out.2.1 h5 h6 h7 hd2 (left1_bd h8 h9).1 (left1_bd h8 h9).2 (hm2.imp id (fun ⟨_, b, e1, e2⟩ => ⟨b, e1, by omega⟩)) ht HQ.out ho2 (okB_append HAll.out.2.2.2.1 hok) (by rw [List.length_append]; have := HAll.out.2.2.2.2.1; omega)
          (fun d hd => by
            rcases hs2 with e1 | ⟨d', e1, e2⟩
            · exact Or.inl (HAll.out.2.2.2.2.2 d (e1 ▸ hd)).2
            · rw [hd] at e1
              have := Option.some.inj e1
              exact Or.inr (by omega)),
        step_grow ht (fun i hi => by
          rcases hi with hi | hi | hi
          · rw [hi]; exact h2
          · exact h3 i hi.symm
          · exact (HAll.out.2.2.2.2.2 i hi).1)⟩
    go_wp2
    go_ret
    refine ⟨grow' P w w2, ?_, ?_⟩
    · unfold appD; rw [hl]; rfl
    · unfold appD
      rw [hl, ← HX.out.1, ← HX.out.2]
      exact hR.out
end
section
open Go.RowKit Go.Maps
/-- What Sync answers, and leaves. -/
def syncD (D : DSt) (k : List UInt8) : Int × DSt :=
  match getE D.fs k with
  | none => (6, D)
  | some u => if lost1 D.lost D.armed D.left = true then (12, { D with lost := true, left := left1 D.lost D.armed D.left })
    else (0, { fs := putE k (u.1, u.1.length) D.fs, lost := false, armed := D.armed, left := left1 D.lost D.armed D.left })
theorem touch_file {w w1 : World} {g : Nat} {mb : Option Nat} {es : List Ent} {fs : List FEnt} {P : Nat → Prop} {lost armed : Bool} {left : Int} (h : DiskE w g mb es lost armed left) (hall : All2 (FileOk w P) es fs) (ht : Touch (· = g) w w1) : All2 (FileOk w1 P) es fs :=
  All2.imp (fun e _ f hf => hf.keep ht (fun d hd e2 => by
    obtain ⟨_, sv, he, ho, _⟩ := hf
    have h9 := own_ne_cells ho h.1 (by decide)
    unfold blkE at hd
    rw [he] at hd
    exact h9 (hd.trans (congrArg some e2))) (fun _ h => h)) hall
theorem DiskAt.wrote {w w1 : World} {g : Nat} {mb : Option Nat} {es : List Ent} {fs : List FEnt} {P : Nat → Prop} {lost armed : Bool} {left : Int} {l2 a2 : Bool} {n2 : Int} (h : DiskE w g mb es lost armed left) (h2 : P g) (h3 : ∀ b, mb = some b → P b) (h4 : All2 (FileOk w P) es fs) (h5 : es.Pairwise Apart) (h6 : Rising es) (h7 : ∀ i, P i → i < w.heap.size)
    (hd : DiskE w1 g mb es l2 a2 n2) (ht : Touch (· = g) w w1) (h8 : 0 ≤ n2) (h9 : n2 ≤ 9223372036854775807) : DiskAt w1 g P ⟨fs, l2, a2, n2⟩ :=
  ⟨mb, es, hd, h2, h3, touch_file h h4 ht, h5, h6, (fun i hi => Nat.lt_of_lt_of_le (h7 i hi) ht.2.2.2.1), h8, h9⟩
theorem sure_any (g : Nat) (P : Nat → Prop) (D : DSt) (s : ByteArray) (w : World) (h : DiskAt w g P D) (hs : s.size ≤ maxLen) :
    Calls Tryz.prog 102 #[ptr g, .string s] w fun e w' => e = .returned (.int .i64 (((getE D.fs s.data.toList).getD ([], 0)).2 : Nat)) ∧ Below w.heap.size w w' := by
  obtain ⟨mb, es, h, h2, h3, h4, h5, h6, h7, h8, h9⟩ := h
  have HF := Lib.hid (find_any g mb es _ _ _ s w h hs)
  obtain ⟨sv, hv, ho, hko, hsu, hsv, -⟩ := file_of h4 s.data.toList
  obtain ⟨ao, c, rfl, -⟩ := id ho.sees
  rw [hv] at HF
  obtain ⟨er, hr⟩ : ∃ er : Int, er = if (getE es s.data.toList).isSome = true then 0 else 6 := ⟨_, rfl⟩
  rw [← hr] at HF
  clear h h4 hv ho hko hsu hsv hr
  go_enter Tryz.func102, Tryz.ntmps102
  go_wp2_with fail
  refine HF.out.mono ?_; rintro e w1 ⟨rfl, hb1⟩
  go_wp2_with fail
  go_ret
  refine ⟨rfl, hb1.trans ?_⟩
  repeat (first | exact Below.refl _ _ | refine Below.setCell ?_ (by simp) _ | refine Below.alloc ?_ (by have := hb1.size; simp; omega) _)
theorem sure_nil (s : ByteArray) (w : World) : Calls Tryz.prog 102 #[.pointer none, .string s] w fun e w' => e = .returned (.int .i64 0) ∧ Below w.heap.size w w' := by
  have HF := Lib.hid (find_nil s w)
  unfold zeroF at HF
  go_enter Tryz.func102, Tryz.ntmps102
  go_wp2_with fail
  refine HF.out.mono ?_; rintro e w1 ⟨rfl, hb1⟩
  go_wp2_with fail
  go_ret
  refine ⟨rfl, hb1.trans ?_⟩
  repeat (first | exact Below.refl _ _ | refine Below.setCell ?_ (by simp) _ | refine Below.alloc ?_ (by have := hb1.size; simp; omega) _)
/-- What Read answers. -/
def readD (D : DSt) (k : List UInt8) : List Int × Int :=
  match getE D.fs k with
  | none => ([], 6)
  | some u => if D.lost = true then ([], 12) else (u.1, 0)
set_option maxHeartbeats 1000000 in
theorem read_any (g : Nat) (P : Nat → Prop) (D : DSt) (s : ByteArray) (w : World) (h : DiskAt w g P D) (hs : s.size ≤ maxLen) (hlen : ((getE D.fs s.data.toList).getD ([], 0)).1.length ≤ 140737488355328) :
    Calls Tryz.prog 28 #[ptr g, .string s] w fun e w' => ∃ v, e = .returned (.tuple #[v, .int .i64 (readD D s.data.toList).2]) ∧ Owns w' w.heap.size v (readD D s.data.toList).1 ∧ Below w.heap.size w w' := by
  obtain ⟨mb, es, h, h2, h3, h4, h5, h6, h7, h8, h9⟩ := h
  have HF := Lib.hid (find_any g mb es _ _ _ s w h hs)
  obtain ⟨sv, hv, ho, hko, hsu, hsv, hsome⟩ := file_of h4 s.data.toList
  have hsee := ho.sees
  obtain ⟨ao, c, rfl, -⟩ := id hsee
  rw [hv, hsome] at HF
  have HS := Lib.hid hsee
  obtain ⟨c0, c1, c2, c3⟩ := dcells h.1
  have hg := h.1
  cases hgf : getE D.fs s.data.toList with
  | none =>
    have e1 : readD D s.data.toList = ([], 6) := by unfold readD; rw [hgf]
    rw [hgf] at HF
    rw [e1]
    have HF : Hid _ := HF
    simp only [Option.isSome_none, Bool.false_eq_true, if_false] at HF
    clear h h4 hv ho hko hsu hsv hsome hsee HS hgf e1
    go_enter Tryz.func28, Tryz.ntmps28
    go_wp2_with fail
    refine HF.out.mono ?_; rintro e w1 ⟨rfl, hb1⟩
    go_wp2_with fail
    go_ret2
    refine ⟨_, rfl, Owns.nil _ _, hb1.trans ?_⟩
    repeat (first | exact Below.refl _ _ | refine Below.setCell ?_ (by simp) _ | refine Below.alloc ?_ (by have := hb1.size; simp; omega) _)
  | some u =>
    rw [hgf] at HF HS hlen
    have HF : Hid _ := HF
    simp only [Option.isSome_some, if_true, Option.getD_some] at HF HS hlen
    have hz : g < w.heap.size := heap_lt hg
    cases hl : D.lost with
    | true =>
      have e1 : readD D s.data.toList = ([], 12) := by unfold readD; rw [hgf]; simp [hl]
      rw [e1]
      rw [hl] at c1 hg
      clear h h4 hv ho hko hsu hsv hsome hsee HS hgf e1
      go_enter Tryz.func28, Tryz.ntmps28
      go_wp2_with fail
      refine HF.out.mono ?_; rintro e w1 ⟨rfl, hb1⟩
      have hg1 := (hb1.block g hz).trans hg
      obtain ⟨-, d1, -, -⟩ := dcells hg1
      have d2 : (w1.alloc (.cells #[.slice ao u.1.length c, .int .i64 (u.2 : Nat)] 124)).cell? ⟨g, 1, none⟩ = some (.bool true) := by rw [World.cell?_alloc_lt w1 _ ⟨g, 1, none⟩ (by have := hb1.size; show g < _; omega)]; exact d1
      clear hg1
      go_wp2_with fail
      go_ret2
      refine ⟨_, rfl, Owns.nil _ _, hb1.trans ?_⟩
      repeat (first | exact Below.refl _ _ | refine Below.setCell ?_ (by simp) _ | refine Below.alloc ?_ (by have := hb1.size; simp; omega) _)
    | false =>
      have e1 : readD D s.data.toList = (u.1, 0) := by unfold readD; rw [hgf]; simp [hl]
      rw [e1]
      rw [hl] at c1 hg
      clear h h4 hv ho hko hsu hsv hsome hsee hgf e1
      go_enter Tryz.func28, Tryz.ntmps28
      go_wp2_with fail
      refine HF.out.mono ?_; rintro e w1 ⟨rfl, hb1⟩
      have hg1 := (hb1.block g hz).trans hg
      obtain ⟨-, d1, -, -⟩ := dcells hg1
      have d2 : (w1.alloc (.cells #[.slice ao u.1.length c, .int .i64 (u.2 : Nat)] 124)).cell? ⟨g, 1, none⟩ = some (.bool false) := by rw [World.cell?_alloc_lt w1 _ ⟨g, 1, none⟩ (by have := hb1.size; show g < _; omega)]; exact d1
      have hb2 := belAlloc hb1 (.cells #[.slice ao u.1.length c, .int .i64 (u.2 : Nat)] 124)
      have hk := HS.out.keep hb2
      clear hg1
      go_wp2_with fail
      refine (clone_any _ u.1 _ hk hlen).mono ?_; rintro e w2 ⟨v, rfl, ho2, hb3⟩
      go_wp2_with fail
      go_ret2
      exact ⟨_, rfl, ho2.le hb2.size, bel hb2 hb3⟩
theorem read_nil (s : ByteArray) (w : World) : Calls Tryz.prog 28 #[.pointer none, .string s] w fun e w' => e = .returned (.tuple #[.slice none 0 0, .int .i64 2]) ∧ Below w.heap.size w w' := by
  have HF := Lib.hid (find_nil s w)
  unfold zeroF at HF
  go_enter Tryz.func28, Tryz.ntmps28
  go_wp2_with fail
  refine HF.out.mono ?_; rintro e w1 ⟨rfl, hb1⟩
  go_wp2_with fail
  go_ret2
  refine ⟨rfl, hb1.trans ?_⟩
  repeat (first | exact Below.refl _ _ | refine Below.setCell ?_ (by simp) _ | refine Below.alloc ?_ (by have := hb1.size; simp; omega) _)
end
section
open Go.RowKit Go.Maps
theorem some_map {w : World} {g : Nat} {mb : Option Nat} {es : List Ent} {lost armed : Bool} {left : Int} (h : DiskE w g mb es lost armed left) {k : List UInt8} {v : Value} (hv : getE es k = some v) : ∃ b, mb = some b := by
  cases mb with
  | none => rw [h.2.2.1 rfl] at hv; cases hv
  | some b => exact ⟨b, rfl⟩
/-- The disk behind 'd.files[name] = f', f having been laid at L. -/
theorem put_end {w w2 w5 : World} {g b : Nat} {P : Nat → Prop} {es : List Ent} {fs : List FEnt} {k : List UInt8} {sv : Value} {xs : List Int} {lost armed l2 : Bool} {left n2 : Int} {ao : Option Addr} {m c n : Nat} {su : Nat}
    (h : DiskE w g (some b) es lost armed left) (h2 : P g) (h3 : P b) (h4 : All2 (FileOk w P) es fs) (h5 : es.Pairwise Apart) (h6 : Rising es) (h7 : ∀ i, P i → i < w.heap.size)
    (hold : ∀ d, sv.ownBlock = some d → P d ∧ ∃ v, getE es k = some v ∧ blkE (k, v) = some d)
    (hd : DiskE w2 g (some b) es l2 armed n2) (ht : Touch (· = g) w w2) (h8 : 0 ≤ n2) (h9 : n2 ≤ 9223372036854775807)
    (hm : MapIs w5 b n (putE k (.agg #[.slice ao m c, .int .i64 (su : Nat)]) es)) (hg : w2.grownBy w5 (some b)) (ho : Owns w2 0 (.slice ao m c) xs) (hok : okB xs) (hsu : su ≤ xs.length)
    (hsv : ∀ d, (Value.slice ao m c).ownBlock = some d → sv.ownBlock = some d ∨ w.heap.size ≤ d) :
    DiskAt w5 g (grow' P w w5) { fs := putE k (xs, su) fs, lost := l2, armed := armed, left := n2 } ∧ Step P (grow' P w w5) w w5 := by
  have hQ : Touch (TurnQ g (some b) sv) w w5 := (ht.mono (fun i _ e => Or.inl e)).trans (Touch.of_grown (P := fun i => i = b) hg (fun k hk => (Option.some.inj hk).symm)) (fun i _ e => Or.inr (Or.inl (by rw [e])))
  refine ⟨DiskAt.put h2 (fun b' e => by cases e; exact h3) h4 h5 h6 h7 (DiskE.put (w := w2) hd n k ao m c _ hm hg) h8 h9 (Or.inl rfl) hQ (others h h4 h5 k sv hold) ?_ hok hsu (fun d hd' => (hsv d hd').imp (fun e => (hold d e).2) id), step_grow hQ (fun i hi => ?_)⟩
  · exact World.ownsRow.kept ho hg (by
      cases hv : (Value.slice ao m c).ownBlock with
      | none => exact Or.inl rfl
      | some d => exact Or.inr (fun e => own_ne_map ho (hd.2.1 b rfl) (hv.trans e)))
  · rcases hi with hi | hi | hi
    · rw [hi]; exact h2
    · obtain rfl := Option.some.inj hi; exact h3
    · exact (hold i hi).1
set_option maxRecDepth 100000 in
set_option maxHeartbeats 2000000 in
theorem sync_any (g : Nat) (P : Nat → Prop) (D : DSt) (s : ByteArray) (w : World) (h : DiskAt w g P D) (hs : s.size ≤ maxLen) (hn : D.fs.length ≤ 1000000) :
    Calls Tryz.prog 103 #[ptr g, .string s] w fun e w' => ∃ P', e = .returned (.int .i64 (syncD D s.data.toList).1) ∧ DiskAt w' g P' (syncD D s.data.toList).2 ∧ Step P P' w w' := by
  have HDA := Lib.hid h
  obtain ⟨mb, es, h, h2, h3, h4, h5, h6, h7, h8, h9⟩ := h
  have HF := Lib.hid (find_any g mb es _ _ _ s w h hs)
  obtain ⟨sv, hv, ho, hko, hsu, hsv, hsome⟩ := file_of h4 s.data.toList
  have hsee := ho.sees
  obtain ⟨ao, c, rfl, -⟩ := id hsee
  rw [hv, hsome] at HF
  have hz : g < w.heap.size := heap_lt h.1
  cases hgf : getE D.fs s.data.toList with
  | none =>
    have e1 : syncD D s.data.toList = (6, D) := by unfold syncD; rw [hgf]
    rw [hgf] at HF
    rw [e1]
    simp only [Option.isSome_none, Bool.false_eq_true, if_false] at HF
    clear h h4 hv ho hko hsu hsv hsome hsee hgf e1
    go_enter Tryz.func103, Tryz.ntmps103
    go_wp2_with fail
    refine HF.out.mono ?_; rintro e w1 ⟨rfl, hb1⟩
    go_wp2_with fail
    go_ret
    refine ⟨P, rfl, HDA.out.below ?_, Touch.of_below P ?_, fun i hi => Or.inl hi⟩
    all_goals
      refine hb1.trans ?_
      repeat (first | exact Below.refl _ _ | refine Below.setCell ?_ (by simp) _ | refine Below.alloc ?_ (by have := hb1.size; simp; omega) _)
  | some u =>
    obtain ⟨b, rfl⟩ : ∃ b, mb = some b := by
      cases hge : getE es s.data.toList with
      | none => rw [hge, hgf] at hsome; cases hsome
      | some v => exact some_map h hge
    rw [hgf] at HF ho hko hsu hv hsee hsv
    simp only [Option.isSome_some, if_true, Option.getD_some] at HF ho hko hsu hv hsee hsv
    have HH := Lib.hid (And.intro h (And.intro h4 (And.intro hsv (And.intro ho (And.intro hko hsu)))))
    clear h h4 hv ho hko hsu hsv hsome hsee
    go_enter Tryz.func103, Tryz.ntmps103
    go_wp2_with fail
    refine HF.out.mono ?_; rintro e w1 ⟨rfl, hb1⟩
    go_wp2_with fail
    obtain ⟨h, h4, hsv, ho, hko, hsu⟩ := HH.out
    have hbA := belAlloc hb1 (.cells #[.slice ao u.1.length c, .int .i64 (u.2 : Nat)] 124)
    have hDA := h.keep hbA
    have hcA : (w1.alloc (.cells #[.slice ao u.1.length c, .int .i64 (u.2 : Nat)] 124)).heap[w1.heap.size]? = some (.cells #[.slice ao u.1.length c, .int .i64 (u.2 : Nat)] 124 (0, 0)) := heap_alloc_new w1 _
    have hz1 := hb1.size
    refine (write_any g (some b) es D.lost D.armed D.left _ hDA h8 h9).mono ?_; rintro e w2 ⟨rfl, hd2, ht2⟩
    have hT : Touch (· = g) w w2 := (Touch.of_below _ hbA).trans ht2 (fun _ _ e => e)
    have hL2 : w2.heap[w1.heap.size]? = some (.cells #[.slice ao u.1.length c, .int .i64 (u.2 : Nat)] 124 (0, 0)) := (ht2.2.2.2.2 _ (by simp) (by omega)).trans hcA
    obtain ⟨l1, hl1⟩ : ∃ l1, l1 = lost1 D.lost D.armed D.left := ⟨_, rfl⟩
    obtain ⟨n1, hn1⟩ : ∃ n1, n1 = left1 D.lost D.armed D.left := ⟨_, rfl⟩
    obtain ⟨q8, q9⟩ := left1_bd (lost := D.lost) (armed := D.armed) h8 h9
    have hE : errW D.lost D.armed D.left = if l1 then 12 else 0 := by unfold errW; rw [hl1]
    rw [← hl1, ← hn1] at hd2
    rw [← hn1] at q8 q9
    have HL := Lib.hid (And.intro hl1 hn1)
    cases l1 with
    | true =>
      have e1 : syncD D s.data.toList = (12, ⟨D.fs, true, D.armed, n1⟩) := by unfold syncD; rw [hgf]; simp only []; rw [← hl1, if_pos rfl, ← hn1]
      have E1 := Lib.hid e1
      rw [hE, if_pos rfl]
      have HR := Lib.hid (DiskAt.wrote (fs := D.fs) h h2 h3 h4 h5 h6 h7 hd2 hT q8 q9)
      clear h h4 hsv ho hko hsu hbA hDA hcA hL2 hd2 hl1 hn1 hE hgf e1
      go_wp2_with fail
      go_ret
      rw [E1.out]
      exact ⟨P, rfl, HR.out, hT.mono (fun i _ e => by rw [e]; exact h2), fun i hi => Or.inl hi⟩
    | false =>
      have e1 : syncD D s.data.toList = (0, { fs := putE s.data.toList (u.1, u.1.length) D.fs, lost := false, armed := D.armed, left := n1 }) := by
        unfold syncD; rw [hgf]; simp only []; rw [← hl1, if_neg (by simp), ← hn1]
      have E1 := Lib.hid e1
      rw [hE, if_neg (by simp)]
      have m1 : w2.cell? ⟨w1.heap.size, 0, none⟩ = some (.slice ao u.1.length c) := by simp [World.cell?, hL2]
      have m2 : w2.cell? ⟨w1.heap.size, 1, none⟩ = some (.int .i64 (u.2 : Nat)) := by simp [World.cell?, hL2]
      have m3 : w2.frozen? ⟨w1.heap.size, 1, none⟩ = false := by simp [World.frozen?, hL2]
      obtain ⟨w3, hw3⟩ : ∃ w3, w3 = w2.setCell ⟨w1.heap.size, 1, none⟩ (.int .i64 u.1.length) := ⟨_, rfl⟩
      have hd3 : DiskE w3 g (some b) es false D.armed n1 := by
        rw [hw3]
        exact hd2.heap (Below.heap_setCell w2 _ _ _ (fun e => by simp only [] at e; omega)) (fun b' e => Below.heap_setCell w2 _ _ _ (fun e2 => by
          have := (hd2.2.1 b' e).ne hL2
          exact this e2))
      have hL3 : w3.heap[w1.heap.size]? = some (.cells #[.slice ao u.1.length c, .int .i64 u.1.length] 124 (0, 0)) := by rw [hw3]; exact dset hL2 1 _
      have hT3 : Touch (· = g) w w3 := hT.trans (Q := fun i => i = w1.heap.size) (by rw [hw3]; exact touch_set w2 w1.heap.size 1 _) (fun i hi e => by omega)
      have ho3 : Owns w3 0 (.slice ao u.1.length c) u.1 := ⟨ho.1, ho.2.imp id fun ⟨g', cap, cur, e1, e2, e3, r⟩ => ⟨g', cap, cur, e1, e2, (hT3.2.2.2.2 g' (heap_lt e3) (fun e => own_ne_cells ho h.1 (by decide) (by rw [e1, ← e]; rfl))).trans e3, r⟩⟩
      have HW3 := Lib.hid hw3
      have HR := Lib.hid (And.intro hd3 (And.intro hT3 ho3))
      obtain ⟨c0, -⟩ := dcells hd3.1
      have p0 : w3.cell? ⟨w1.heap.size, 0, none⟩ = some (.slice ao u.1.length c) := by simp [World.cell?, hL3]
      have p1 : w3.cell? ⟨w1.heap.size, 1, none⟩ = some (.int .i64 u.1.length) := by simp [World.cell?, hL3]
      have hlenE : es.length ≤ 1000000 := by rw [All2.len h4]; exact hn
      have HC := Lib.hid (And.intro c0 (And.intro p0 p1))
      clear h h4 hsv ho hko hsu hbA hDA hcA hL2 hd2 hl1 hn1 hE hgf e1 hw3 hd3 hT3 ho3 hL3 c0 p0 p1 hT ht2
      go_upto_region 8 with fail
      rw [← HW3.out]
      clear m1 m2 m3
      obtain ⟨c0, p0, p1⟩ := HC.out
      go_still_tail 6, (by kernel_rfl)
      change wpList _ _ _ _ _ w3.drew
      have hM2 : MapIs w3.drew b es.length es := HR.out.1.2.1 b rfl
      go_wp2_with (first
        | (at_mapUpdate; refine wpList_putE rfl (.tmp 29) (.tmp 30) (.tmp 31) rfl b es.length es rfl hM2 (by unfold maxLen; omega) s hs (.agg #[.slice ao u.1.length c, .int .i64 u.1.length]) rfl rfl ?_; intro w5 hm5 hg5)
        | fail)
      go_ret
      obtain ⟨h, h4, hsv, ho, hko, hsu⟩ := HH.out
      obtain ⟨hd3, hT3, ho3⟩ := HR.out
      rw [E1.out]
      exact ⟨_, rfl, put_end (w2 := w3.drew) (su := u.1.length) h h2 (h3 b rfl) h4 h5 h6 h7 hsv hd3 (hT3.trans (Q := fun _ => False) (c := w3.drew) ⟨rfl, rfl, rfl, Nat.le_refl _, fun _ _ _ => rfl⟩ (fun _ _ h => h.elim)) q8 q9 hm5 hg5 ho3 hko (Nat.le_refl _) (fun d hd => Or.inl hd)⟩
theorem sync_nil (s : ByteArray) (w : World) : Calls Tryz.prog 103 #[.pointer none, .string s] w fun e w' => e = .returned (.int .i64 2) ∧ Below w.heap.size w w' := by
  have HF := Lib.hid (find_nil s w)
  unfold zeroF at HF
  go_enter Tryz.func103, Tryz.ntmps103
  go_wp2_with fail
  refine HF.out.mono ?_; rintro e w1 ⟨rfl, hb1⟩
  go_wp2_with fail
  go_ret
  refine ⟨rfl, hb1.trans ?_⟩
  repeat (first | exact Below.refl _ _ | refine Below.setCell ?_ (by simp) _ | refine Below.alloc ?_ (by have := hb1.size; simp; omega) _)
end
section
open Go.RowKit Go.Maps
theorem wpList_delE {w : World} {ops : Array Oper} {rest : List Oper} {o : Oper} {a : Act} {Q : Exit → Act → World → Prop} (hgd : o.guard = none) (m x : Operand)
    (hop : o.op = Op.call { callee := Callee.builtin Builtin.delete, args := #[m, x], argTypes := #[90, 9] }) (b n : Nat) (fs : List Ent) (hm : a.eval m = .map (some b)) (h : MapIs w b n fs) (s : ByteArray) (hs : s.size ≤ maxLen) (hx : a.eval x = .string s)
    (hK : ∀ w', MapIs w' b n (delE s.data.toList fs) → w.grownBy w' (some b) → wpList Tryz.prog ops Q rest (a.put o.dst (.tuple #[])) w') : wpList Tryz.prog ops Q (o :: rest) a w := by
  refine wpList_plain hgd fun K' hK' => ?_
  obtain ⟨w', hrun, r1, r2⟩ := h.del hs o.type
  unfold Oper.wp
  simp [execOp, hop, resolve, invoke, builtin, hm, hx, hrun, Result.andThen]
  exact hK' _ _ (hK w' r1 r2)
def removeD (D : DSt) (k : List UInt8) : Int × DSt :=
  match getE D.fs k with
  | none => (6, D)
  | some _ => if lost1 D.lost D.armed D.left = true then (12, { D with lost := true, left := left1 D.lost D.armed D.left })
    else (0, { fs := delE k D.fs, lost := false, armed := D.armed, left := left1 D.lost D.armed D.left })
def renameD (D : DSt) (k t : List UInt8) : Int × DSt :=
  match getE D.fs k with
  | none => (6, D)
  | some u => if t = [] ∨ t = k then (1, D) else if lost1 D.lost D.armed D.left = true then (12, { D with lost := true, left := left1 D.lost D.armed D.left })
    else (0, { fs := putE t u (delE k D.fs), lost := false, armed := D.armed, left := left1 D.lost D.armed D.left })
def cutD (D : DSt) (k : List UInt8) (n : Int) : Int × DSt :=
  match getE D.fs k with
  | none => (6, D)
  | some u => if n < 0 ∨ (u.1.length : Int) < n then (1, D) else if lost1 D.lost D.armed D.left = true then (12, { D with lost := true, left := left1 D.lost D.armed D.left })
    else (0, { fs := putE k (u.1.take n.toNat, n.toNat) D.fs, lost := false, armed := D.armed, left := left1 D.lost D.armed D.left })
theorem DiskE.del {w w' : World} {g : Nat} {b : Nat} {es : List Ent} {lost armed : Bool} {left : Int} (h : DiskE w g (some b) es lost armed left) (n : Nat) (k : List UInt8) (hm : MapIs w' b n (delE k es)) (hg : w.grownBy w' (some b)) : DiskE w' g (some b) (delE k es) lost armed left := by
  have hne := (h.2.1 b rfl).ne h.1
  exact ⟨(hg.block g (heap_lt h.1) (fun e => hne (Option.some.inj e).symm)).trans h.1, fun b' e => (by cases e; exact hm.tight), (fun e => by cases e), fun p hp => h.2.2.2 p (List.mem_filter.1 hp).1⟩
/-- The disk behind 'delete(d.files, k)'. -/
theorem del_end {w w2 w5 : World} {g b : Nat} {P : Nat → Prop} {es : List Ent} {fs : List FEnt} {k : List UInt8} {lost armed l2 : Bool} {left n2 : Int} {n : Nat}
    (h : DiskE w g (some b) es lost armed left) (h2 : P g) (h3 : P b) (h4 : All2 (FileOk w P) es fs) (h5 : es.Pairwise Apart) (h6 : Rising es) (h7 : ∀ i, P i → i < w.heap.size)
    (hd : DiskE w2 g (some b) es l2 armed n2) (ht : Touch (· = g) w w2) (h8 : 0 ≤ n2) (h9 : n2 ≤ 9223372036854775807)
    (hm : MapIs w5 b n (delE k es)) (hg : w2.grownBy w5 (some b)) :
    DiskAt w5 g P { fs := delE k fs, lost := l2, armed := armed, left := n2 } ∧ Step P P w w5 := by
  have hQ : Touch (fun i => i = g ∨ i = b) w w5 := (ht.mono (fun i _ e => Or.inl e)).trans (Touch.of_grown (P := fun i => i = b) hg (fun k hk => (Option.some.inj hk).symm)) (fun i _ e => Or.inr e)
  refine ⟨⟨some b, _, hd.del n k hm hg, h2, fun b' e => by cases e; exact h3, ?_, h5.filter _, h6.del k, fun i hi => Nat.lt_of_lt_of_le (h7 i hi) hQ.2.2.2.1, h8, h9⟩, hQ.mono (fun i _ e => by rcases e with e | e <;> (rw [e]; assumption)), fun i hi => Or.inl hi⟩
  refine All2.imp (fun e he f hf => hf.keep hQ (fun d hd2 hq => ?_) (fun _ h => h)) (All2.del fileKey k h4)
  obtain ⟨_, sv, e1, e2, _⟩ := hf
  have e3 : sv.ownBlock = some d := by unfold blkE at hd2; rw [e1] at hd2; exact hd2
  rcases hq with hq | hq
  · exact own_ne_cells e2 h.1 (by decide) (e3.trans (congrArg some hq))
  · exact own_ne_map e2 (h.2.1 b rfl) (e3.trans (congrArg some hq))
set_option maxRecDepth 100000 in
set_option maxHeartbeats 2000000 in
theorem remove_any (g : Nat) (P : Nat → Prop) (D : DSt) (s : ByteArray) (w : World) (h : DiskAt w g P D) (hs : s.size ≤ maxLen) :
    Calls Tryz.prog 153 #[ptr g, .string s] w fun e w' => ∃ P', e = .returned (.int .i64 (removeD D s.data.toList).1) ∧ DiskAt w' g P' (removeD D s.data.toList).2 ∧ Step P P' w w' := by
  have HDA := Lib.hid h
  obtain ⟨mb, es, h, h2, h3, h4, h5, h6, h7, h8, h9⟩ := h
  have HF := Lib.hid (find_any g mb es _ _ _ s w h hs)
  obtain ⟨sv, hv, ho, hko, hsu, hsv, hsome⟩ := file_of h4 s.data.toList
  have hsee := ho.sees
  obtain ⟨ao, c, rfl, -⟩ := id hsee
  rw [hv, hsome] at HF
  have hz : g < w.heap.size := heap_lt h.1
  cases hgf : getE D.fs s.data.toList with
  | none =>
    have e1 : removeD D s.data.toList = (6, D) := by unfold removeD; rw [hgf]
    rw [hgf] at HF
    rw [e1]
    simp only [Option.isSome_none, Bool.false_eq_true, if_false] at HF
    clear h h4 hv ho hko hsu hsv hsome hsee hgf e1
    go_enter Tryz.func153, Tryz.ntmps153
    go_wp2_with fail
    refine HF.out.mono ?_; rintro e w1 ⟨rfl, hb1⟩
    go_wp2_with fail
    go_ret
    refine ⟨P, rfl, HDA.out.below ?_, Touch.of_below P ?_, fun i hi => Or.inl hi⟩
    all_goals
      refine hb1.trans ?_
      repeat (first | exact Below.refl _ _ | refine Below.setCell ?_ (by simp) _ | refine Below.alloc ?_ (by have := hb1.size; simp; omega) _)
  | some u =>
    obtain ⟨b, rfl⟩ : ∃ b, mb = some b := by
      cases hge : getE es s.data.toList with
      | none => rw [hge, hgf] at hsome; cases hsome
      | some v => exact some_map h hge
    rw [hgf] at HF ho hko hsu hv hsee hsv
    simp only [Option.isSome_some, if_true, Option.getD_some] at HF ho hko hsu hv hsee hsv
    have HH := Lib.hid (And.intro h (And.intro h4 (And.intro hsv (And.intro ho (And.intro hko hsu)))))
    clear h h4 hv ho hko hsu hsv hsome hsee
    go_enter Tryz.func153, Tryz.ntmps153
    go_wp2_with fail
    refine HF.out.mono ?_; rintro e w1 ⟨rfl, hb1⟩
    go_wp2_with fail
    obtain ⟨h, h4, hsv, ho, hko, hsu⟩ := HH.out
    have hbA := belAlloc hb1 (.cells #[.slice ao u.1.length c, .int .i64 (u.2 : Nat)] 124)
    have hDA := h.keep hbA
    have hcA : (w1.alloc (.cells #[.slice ao u.1.length c, .int .i64 (u.2 : Nat)] 124)).heap[w1.heap.size]? = some (.cells #[.slice ao u.1.length c, .int .i64 (u.2 : Nat)] 124 (0, 0)) := heap_alloc_new w1 _
    have hz1 := hb1.size
    refine (write_any g (some b) es D.lost D.armed D.left _ hDA h8 h9).mono ?_; rintro e w2 ⟨rfl, hd2, ht2⟩
    have hT : Touch (· = g) w w2 := (Touch.of_below _ hbA).trans ht2 (fun _ _ e => e)
    have hL2 : w2.heap[w1.heap.size]? = some (.cells #[.slice ao u.1.length c, .int .i64 (u.2 : Nat)] 124 (0, 0)) := (ht2.2.2.2.2 _ (by simp) (by omega)).trans hcA
    obtain ⟨l1, hl1⟩ : ∃ l1, l1 = lost1 D.lost D.armed D.left := ⟨_, rfl⟩
    obtain ⟨n1, hn1⟩ : ∃ n1, n1 = left1 D.lost D.armed D.left := ⟨_, rfl⟩
    obtain ⟨q8, q9⟩ := left1_bd (lost := D.lost) (armed := D.armed) h8 h9
    have hE : errW D.lost D.armed D.left = if l1 then 12 else 0 := by unfold errW; rw [hl1]
    rw [← hl1, ← hn1] at hd2
    rw [← hn1] at q8 q9
    have HL := Lib.hid (And.intro hl1 hn1)
    cases l1 with
    | true =>
      have e1 : removeD D s.data.toList = (12, ⟨D.fs, true, D.armed, n1⟩) := by unfold removeD; rw [hgf]; simp only []; rw [← hl1, if_pos rfl, ← hn1]
      have E1 := Lib.hid e1
      rw [hE, if_pos rfl]
      have HR := Lib.hid (DiskAt.wrote (fs := D.fs) h h2 h3 h4 h5 h6 h7 hd2 hT q8 q9)
      clear h h4 hsv ho hko hsu hbA hDA hcA hL2 hd2 hl1 hn1 hE hgf e1
      go_wp2_with fail
      go_ret
      rw [E1.out]
      exact ⟨P, rfl, HR.out, hT.mono (fun i _ e => by rw [e]; exact h2), fun i hi => Or.inl hi⟩
    | false =>
      have e1 : removeD D s.data.toList = (0, { fs := delE s.data.toList D.fs, lost := false, armed := D.armed, left := n1 }) := by
        unfold removeD; rw [hgf]; simp only []; rw [← hl1, if_neg (by simp), ← hn1]
      have E1 := Lib.hid e1
      rw [hE, if_neg (by simp)]
      obtain ⟨c0, -⟩ := dcells hd2.1
      have hM2 : MapIs w2 b es.length es := hd2.2.1 b rfl
      have HR := Lib.hid (fun (w5 : World) (hm : MapIs w5 b es.length (delE s.data.toList es)) (hg : w2.grownBy w5 (some b)) => del_end h h2 (h3 b rfl) h4 h5 h6 h7 hd2 hT q8 q9 hm hg)
      clear h h4 hsv ho hko hsu hbA hDA hcA hL2 hd2 hl1 hn1 hE hgf e1 hT ht2
      go_wp2_with (first
        | (refine wpList_delE rfl (.tmp 25) (.tmp 26) rfl b es.length es rfl hM2 s hs rfl ?_; intro w5 hm5 hg5)
        | fail)
      go_ret
      obtain ⟨r1, r2⟩ := HR.out w5 hm5 hg5
      rw [E1.out]
      exact ⟨P, rfl, r1, r2⟩
/-- The disk behind a file that got another name. -/
theorem mv_end {w w2 w5 w6 : World} {g b : Nat} {P : Nat → Prop} {es : List Ent} {fs : List FEnt} {k t : List UInt8} {ao : Option Addr} {m c : Nat} {su : Int} {u : List Int × Nat} {lost armed l2 : Bool} {left n2 : Int} {n5 n6 : Nat}
    (h : DiskE w g (some b) es lost armed left) (h2 : P g) (h3 : P b) (h4 : All2 (FileOk w P) es fs) (h5 : es.Pairwise Apart) (h6 : Rising es) (h7 : ∀ i, P i → i < w.heap.size)
    (hv : getE es k = some (.agg #[.slice ao m c, .int .i64 su])) (hu : getE fs k = some u)
    (hd : DiskE w2 g (some b) es l2 armed n2) (ht : Touch (· = g) w w2) (h8 : 0 ≤ n2) (h9 : n2 ≤ 9223372036854775807)
    (hm : MapIs w5 b n5 (delE k es)) (hg : w2.grownBy w5 (some b)) (hm6 : MapIs w6 b n6 (putE t (.agg #[.slice ao m c, .int .i64 su]) (delE k es))) (hg6 : w5.grownBy w6 (some b)) :
    DiskAt w6 g P { fs := putE t u (delE k fs), lost := l2, armed := armed, left := n2 } ∧ Step P P w w6 := by
  have hQ : Touch (fun i => i = g ∨ i = b) w w6 := ((ht.mono (fun i _ e => Or.inl e)).trans (Touch.of_grown (P := fun i => i = b) hg (fun k hk => (Option.some.inj hk).symm)) (fun i _ e => Or.inr e)).trans (Touch.of_grown (P := fun i => i = b) hg6 (fun k hk => (Option.some.inj hk).symm)) (fun i _ e => Or.inr e)
  have hkeep : ∀ (e : Ent) (f : FEnt), FileOk w P e f → FileOk w6 P e f := fun e f hf => hf.keep hQ (fun d hd2 hq => by
    obtain ⟨_, sv, e1, e2, _⟩ := hf
    have e3 : sv.ownBlock = some d := by unfold blkE at hd2; rw [e1] at hd2; exact hd2
    rcases hq with hq | hq
    · exact own_ne_cells e2 h.1 (by decide) (e3.trans (congrArg some hq))
    · exact own_ne_map e2 (h.2.1 b rfl) (e3.trans (congrArg some hq))) (fun _ h => h)
  have hf : FileOk w6 P (t, .agg #[.slice ao m c, .int .i64 su]) (t, u) := by
    rcases All2.get fileKey k h4 with ⟨h1, _⟩ | ⟨v', u', q1, q2, q3⟩
    · rw [hv] at h1; cases h1
    · rw [hv] at q1; rw [hu] at q2
      cases q1; cases q2
      obtain ⟨_, r⟩ := hkeep _ _ q3
      exact ⟨rfl, r⟩
  refine ⟨⟨some b, _, (hd.del n5 k hm hg).put n6 t ao m c su hm6 hg6, h2, fun b' e => by cases e; exact h3, ?_, ?_, (h6.del k).put t _, fun i hi => Nat.lt_of_lt_of_le (h7 i hi) hQ.2.2.2.1, h8, h9⟩, hQ.mono (fun i _ e => by rcases e with e | e <;> (rw [e]; assumption)), fun i hi => Or.inl hi⟩
  · exact All2.ins fileKey hf (All2.imp (fun e _ f hf => hkeep e f hf) (All2.del fileKey t (All2.del fileKey k h4)))
  · refine (List.Perm.pairwise_iff (fun {a b} h => Apart.symm h) (insE_perm _ _)).2 (List.pairwise_cons.2 ⟨fun q hqm d hd => ?_, (h5.filter _).filter _⟩)
    have h10 := List.mem_filter.1 (List.mem_filter.1 hqm).1
    have hne : q.1 ≠ k := by simpa using h10.2
    exact apart_of h5 (getE_mem hv) h10.1 (fun e => hne (by rw [← e])) d hd
set_option maxRecDepth 100000 in
set_option maxHeartbeats 2000000 in
theorem rename_any (g : Nat) (P : Nat → Prop) (D : DSt) (s t : ByteArray) (w : World) (h : DiskAt w g P D) (hs : s.size ≤ maxLen) (ht0 : t.size ≤ maxLen) (hn : D.fs.length ≤ 1000000) :
    Calls Tryz.prog 122 #[ptr g, .string s, .string t] w fun e w' => ∃ P', e = .returned (.int .i64 (renameD D s.data.toList t.data.toList).1) ∧ DiskAt w' g P' (renameD D s.data.toList t.data.toList).2 ∧ Step P P' w w' := by
  have HDA := Lib.hid h
  obtain ⟨mb, es, h, h2, h3, h4, h5, h6, h7, h8, h9⟩ := h
  have HF := Lib.hid (find_any g mb es _ _ _ s w h hs)
  obtain ⟨sv, hv, ho, hko, hsu, hsv, hsome⟩ := file_of h4 s.data.toList
  have hsee := ho.sees
  obtain ⟨ao, c, rfl, -⟩ := id hsee
  rw [hv, hsome] at HF
  have hz : g < w.heap.size := heap_lt h.1
  cases hgf : getE D.fs s.data.toList with
  | none =>
    have e1 : renameD D s.data.toList t.data.toList = (6, D) := by unfold renameD; rw [hgf]
    rw [hgf] at HF
    rw [e1]
    simp only [Option.isSome_none, Bool.false_eq_true, if_false] at HF
    clear h h4 hv ho hko hsu hsv hsome hsee hgf e1
    go_enter Tryz.func122, Tryz.ntmps122
    go_wp2_with fail
    refine HF.out.mono ?_; rintro e w1 ⟨rfl, hb1⟩
    go_wp2_with fail
    go_ret
    refine ⟨P, rfl, HDA.out.below ?_, Touch.of_below P ?_, fun i hi => Or.inl hi⟩
    all_goals
      refine hb1.trans ?_
      repeat (first | exact Below.refl _ _ | refine Below.setCell ?_ (by simp) _ | refine Below.alloc ?_ (by have := hb1.size; simp; omega) _)
  | some u =>
    obtain ⟨b, rfl⟩ : ∃ b, mb = some b := by
      cases hge : getE es s.data.toList with
      | none => rw [hge, hgf] at hsome; cases hsome
      | some v => exact some_map h hge
    rw [hgf] at HF ho hko hsu hv hsee hsv
    simp only [Option.isSome_some, if_true, Option.getD_some] at HF ho hko hsu hv hsee hsv
    have HGF := Lib.hid hgf
    have HVS : Hid (getE es s.data.toList = some (.agg #[.slice ao u.1.length c, .int .i64 (u.2 : Nat)])) := Lib.hid (by
      cases hge : getE es s.data.toList with
      | none => rw [hge, hgf] at hsome; cases hsome
      | some v => rw [hge] at hv; exact congrArg some hv)
    have HH := Lib.hid (And.intro h (And.intro h4 (And.intro hsv (And.intro ho (And.intro hko hsu)))))
    clear h h4 hv ho hko hsu hsv hsome hsee
    by_cases ht1 : t.data.toList = []
    · have e1 : renameD D s.data.toList t.data.toList = (1, D) := by unfold renameD; rw [HGF.out]; simp only []; rw [if_pos (Or.inl ht1)]
      rw [e1]
      clear e1
      obtain rfl : t = ⟨#[]⟩ := by
        cases t with | mk ta => cases ta with | mk tl => cases tl with
          | nil => rfl
          | cons x y => cases ht1
      go_enter Tryz.func122, Tryz.ntmps122
      go_wp2_with fail
      refine HF.out.mono ?_; rintro e w1 ⟨rfl, hb1⟩
      go_wp2_with fail
      go_ret
      refine ⟨P, rfl, HDA.out.below ?_, Touch.of_below P ?_, fun i hi => Or.inl hi⟩
      all_goals
        refine hb1.trans ?_
        repeat (first | exact Below.refl _ _ | refine Below.setCell ?_ (by simp) _ | refine Below.alloc ?_ (by have := hb1.size; simp; omega) _)

    have d1 : ¬ t.toList = [] := by rw [ByteArray.toList_eq]; exact ht1
    have d2 : t.toList.isEmpty = false := by cases hh : t.toList with | nil => exact absurd hh d1 | cons a b => rfl
    by_cases hts : t = s
    · have e1 : renameD D s.data.toList t.data.toList = (1, D) := by unfold renameD; rw [HGF.out]; simp only []; rw [if_pos (Or.inr (by rw [hts]))]
      rw [e1]
      clear e1
      subst hts
      go_enter Tryz.func122, Tryz.ntmps122
      go_wp2_with fail
      refine HF.out.mono ?_; rintro e w1 ⟨rfl, hb1⟩
      go_wp2_with fail
      go_ret
      refine ⟨P, rfl, HDA.out.below ?_, Touch.of_below P ?_, fun i hi => Or.inl hi⟩
      all_goals
        refine hb1.trans ?_
        repeat (first | exact Below.refl _ _ | refine Below.setCell ?_ (by simp) _ | refine Below.alloc ?_ (by have := hb1.size; simp; omega) _)

    have d4 : ¬ t.toList = s.toList := fun e => hts (by rw [ByteArray.toList_eq, ByteArray.toList_eq] at e; cases t; cases s; simp only [Array.toList_inj] at e; rw [e])
    have d3 : (t.toList == s.toList) = false := by simpa using d4
    have hne : ¬ (t.data.toList = [] ∨ t.data.toList = s.data.toList) := by
      rintro (e | e)
      · exact ht1 e
      · exact hts (by cases t; cases s; simp only [Array.toList_inj] at e; rw [e])
    have HNE := Lib.hid hne
    clear ht1 hts hne d4
    go_enter Tryz.func122, Tryz.ntmps122
    go_wp2_with fail
    refine HF.out.mono ?_; rintro e w1 ⟨rfl, hb1⟩
    go_wp2_with fail
    obtain ⟨h, h4, hsv, ho, hko, hsu⟩ := HH.out
    have hbA := belAlloc hb1 (.cells #[.slice ao u.1.length c, .int .i64 (u.2 : Nat)] 124)
    have hDA := h.keep hbA
    have hcA : (w1.alloc (.cells #[.slice ao u.1.length c, .int .i64 (u.2 : Nat)] 124)).heap[w1.heap.size]? = some (.cells #[.slice ao u.1.length c, .int .i64 (u.2 : Nat)] 124 (0, 0)) := heap_alloc_new w1 _
    have hz1 := hb1.size
    refine (write_any g (some b) es D.lost D.armed D.left _ hDA h8 h9).mono ?_; rintro e w2 ⟨rfl, hd2, ht2⟩
    have hT : Touch (· = g) w w2 := (Touch.of_below _ hbA).trans ht2 (fun _ _ e => e)
    have hL2 : w2.heap[w1.heap.size]? = some (.cells #[.slice ao u.1.length c, .int .i64 (u.2 : Nat)] 124 (0, 0)) := (ht2.2.2.2.2 _ (by simp) (by omega)).trans hcA
    obtain ⟨l1, hl1⟩ : ∃ l1, l1 = lost1 D.lost D.armed D.left := ⟨_, rfl⟩
    obtain ⟨n1, hn1⟩ : ∃ n1, n1 = left1 D.lost D.armed D.left := ⟨_, rfl⟩
    obtain ⟨q8, q9⟩ := left1_bd (lost := D.lost) (armed := D.armed) h8 h9
    have hE : errW D.lost D.armed D.left = if l1 then 12 else 0 := by unfold errW; rw [hl1]
    rw [← hl1, ← hn1] at hd2
    rw [← hn1] at q8 q9
    have HL := Lib.hid (And.intro hl1 hn1)
    cases l1 with
    | true =>
      have e1 : renameD D s.data.toList t.data.toList = (12, ⟨D.fs, true, D.armed, n1⟩) := by unfold renameD; rw [hgf]; simp only []; rw [if_neg HNE.out, ← hl1, if_pos rfl, ← hn1]
      have E1 := Lib.hid e1
      rw [hE, if_pos rfl]
      have HR := Lib.hid (DiskAt.wrote (fs := D.fs) h h2 h3 h4 h5 h6 h7 hd2 hT q8 q9)
      clear h h4 hsv ho hko hsu hbA hDA hcA hL2 hd2 hl1 hn1 hE hgf e1
      go_wp2_with fail
      go_ret
      rw [E1.out]
      exact ⟨P, rfl, HR.out, hT.mono (fun i _ e => by rw [e]; exact h2), fun i hi => Or.inl hi⟩
    | false =>
      have e1 : renameD D s.data.toList t.data.toList = (0, { fs := putE t.data.toList u (delE s.data.toList D.fs), lost := false, armed := D.armed, left := n1 }) := by
        unfold renameD; rw [hgf]; simp only []; rw [if_neg HNE.out, ← hl1, if_neg (by simp), ← hn1]
      have E1 := Lib.hid e1
      rw [hE, if_neg (by simp)]
      obtain ⟨c0, -⟩ := dcells hd2.1
      have hM2 : MapIs w2 b es.length es := hd2.2.1 b rfl
      have hlenE : es.length ≤ 1000000 := by rw [All2.len h4]; exact hn
      have HR := Lib.hid (fun (n5 n6 : Nat) (w5 w6 : World) (hm : MapIs w5 b n5 (delE s.data.toList es)) (hg : w2.grownBy w5 (some b)) (hm6 : MapIs w6 b n6 (putE t.data.toList (.agg #[.slice ao u.1.length c, .int .i64 (u.2 : Nat)]) (delE s.data.toList es))) (hg6 : w5.grownBy w6 (some b)) => mv_end h h2 (h3 b rfl) h4 h5 h6 h7 HVS.out HGF.out hd2 hT q8 q9 hm hg hm6 hg6)
      have HD2 := Lib.hid hd2
      have HL2 := Lib.hid hL2
      clear h h4 hsv ho hko hsu hbA hDA hcA hL2 hd2 hl1 hn1 hE hgf e1 hT ht2 d1 d2 d3
      go_upto_region 10 with (first
        | (refine wpList_delE rfl (.tmp 34) (.tmp 35) rfl b es.length es rfl hM2 s hs rfl ?_; intro w5 hm5 hg5)
        | fail)
      have hd5 := HD2.out.del _ _ hm5 hg5
      have hL5 : w5.heap[w1.heap.size]? = some (.cells #[.slice ao u.1.length c, .int .i64 (u.2 : Nat)] 124 (0, 0)) := (hg5.block _ (heap_lt HL2.out) (fun e => by
        have := (HD2.out.2.1 b rfl).ne HL2.out
        exact this (Option.some.inj e).symm)).trans HL2.out
      have p0 : w5.cell? ⟨w1.heap.size, 0, none⟩ = some (.slice ao u.1.length c) := by simp [World.cell?, hL5]
      have p1 : w5.cell? ⟨w1.heap.size, 1, none⟩ = some (.int .i64 (u.2 : Nat)) := by simp [World.cell?, hL5]
      clear c0
      obtain ⟨c0, -⟩ := dcells hd5.1
      have HM5 := Lib.hid (And.intro hm5 hg5)
      have hlen2 : (delE s.data.toList es).length ≤ es.length := List.length_filter_le _ _
      clear hd5 hL5 hm5 hg5 hM2
      go_still_tail 6, (by kernel_rfl)
      change wpList _ _ _ _ _ w5.drew
      have hM5 : MapIs w5.drew b es.length (delE s.data.toList es) := HM5.out.1
      go_wp2_with (first
        | (at_mapUpdate; refine wpList_putE rfl (.tmp 39) (.tmp 40) (.tmp 41) rfl b es.length _ rfl hM5 (by unfold maxLen; omega) t ht0 (.agg #[.slice ao u.1.length c, .int .i64 (u.2 : Nat)]) rfl rfl ?_; intro w6 hm6 hg6)
        | fail)
      go_ret
      obtain ⟨hm5, hg5⟩ := HM5.out
      obtain ⟨r1, r2⟩ := HR.out _ _ w5.drew w6 hm5 ⟨hg5.os, hg5.tape, hg5.output, hg5.size, hg5.block⟩ hm6 hg6
      rw [E1.out]
      exact ⟨P, rfl, r1, r2⟩
end
section
open Go.RowKit Go.Maps Go.Sort Go.Shelf
/-- A value that reads as a row of texts. -/
def SeesT (w : World) (v : Value) (ks : List (List UInt8)) : Prop :=
  ∃ (ao : Option Addr) (c : Nat), v = .slice ao ks.length c ∧ ks.length ≤ c ∧ (ao = none → ks = []) ∧ ∀ a, ao = some a → ∀ i, i < ks.length → w.cell? (a.add i) = some (encStr (ks.getD i []))
theorem SeesT.of_row {w : World} {B : Nat} {v : Value} {ks : List (List UInt8)} (h : w.ownsRow B 9 1 v ks.length (ks.map encStr)) : SeesT w v ks := by
  have hc := fun g hg => World.ownsRow.cells h (g := g) hg
  obtain ⟨_, ⟨rfl, hn⟩ | ⟨g, cap, cur, rfl, _, _, hnc, _, _, _⟩⟩ := h
  · obtain rfl := List.eq_nil_of_length_eq_zero hn
    exact ⟨none, 0, rfl, Nat.le_refl _, fun _ => rfl, fun a ha => by cases ha⟩
  · exact ⟨some ⟨g, 0, none⟩, cap, rfl, hnc, (fun e => by cases e), fun a ha i hi => (by
      cases ha
      exact hc g rfl i _ (by rw [List.getElem?_map, List.getElem?_eq_getElem hi]; simp [List.getD, List.getElem?_eq_getElem hi]))⟩
theorem keys_all2 {w : World} {P : Nat → Prop} : ∀ {es : List Ent} {fs : List FEnt}, All2 (FileOk w P) es fs → es.map (·.1) = fs.map (·.1)
  | [], [], _ => rfl
  | a :: es, b :: fs, ⟨h1, h2⟩ => by rw [List.map_cons, List.map_cons, h1.1, keys_all2 h2]
set_option maxRecDepth 100000 in
set_option maxHeartbeats 2000000 in
theorem names_any (g : Nat) (P : Nat → Prop) (D : DSt) (w : World) (h : DiskAt w g P D) (hn : D.fs.length ≤ 1000000) :
    Calls Tryz.prog 25 #[ptr g] w fun e w' => ∃ v, e = .returned v ∧ SeesT w' v (D.fs.map (·.1)) ∧ Below w.heap.size w w' ∧ ∀ d, v.ownBlock = some d → w.heap.size ≤ d := by
  obtain ⟨mb, es, h, h2, h3, h4, h5, h6, h7, h8, h9⟩ := h
  have hk := keys_all2 h4
  have hlen : es.length ≤ 1000000 := by rw [All2.len h4]; exact hn
  have q := eqNilD
  obtain ⟨c0, -⟩ := dcells h.1
  cases mb with
  | some b =>
    have hM := h.2.1 b rfl
    have hmax : Maps.size (datum es) ≤ maxLen := by rw [size_datum]; unfold maxLen; omega
    have hbytes : Maps.size (datum es) * 16 ≤ 140737488355328 := by rw [size_datum]; omega
    have HK := Lib.hid (And.intro hk (And.intro h6 (And.intro hmax hbytes)))
    have HM := Lib.hid hM
    clear h h4 hk hmax hbytes hM h7 h3 h2
    refine (callsIn_wide (n := 6)).1 ?_
    have hfK : Fence.wide.fn 51 := trivial
    have hfS : Fence.wide.fn 50 := trivial
    refine callsIn_of_wp Tryz.func25 rfl trivial ?_ rfl
    simp only [Tryz.ntmps25, List.size_toArray, List.length_cons, List.length_nil, Nat.reduceAdd, Nat.reduceSub, Array.replicate_succ, Array.replicate_zero, List.push_toArray, List.append_toArray, List.nil_append, List.cons_append]
    gi_wp2_with (first
      | (gi_at_call 51; refine (Tryz.maps_Keys_51 _ _).mono ?_; rintro e w' ⟨rfl, rfl⟩)
      | (gi_at_call 50; refine (Tryz.slices_Sorted_keys_50_51 b es.length (datum es) Rv w HM.out HK.out.2.2.1 HK.out.2.2.2).mono ?_; rintro e w' ⟨v, ss, rfl, hS, hrow, hnil, hb⟩))
    go_ret
    obtain ⟨hk, h6, -, -⟩ := HK.out
    have e1 := sorted_keys h6 hS
    rw [hk] at e1
    have hl : ss.length = (D.fs.map (·.1)).length := by rw [← e1]; exact (List.length_mergeSort ss).symm
    rw [e1, hl] at hrow
    refine ⟨v, rfl, SeesT.of_row hrow, ((Below.refl _ w).alloc (Nat.le_refl _) _).trans (hb.mono (by simp)), fun d hd => ?_⟩
    have := (World.ownsRow.lt hrow d hd).1
    simp at this
    omega
  | none =>
    have hE := h.2.2.1 rfl
    subst hE
    have hk0 : D.fs.map (·.1) = [] := hk.symm
    rw [hk0]
    clear h h4 hk h7 h3 h2 hk0
    refine (callsIn_wide (n := 6)).1 ?_
    have hfK : Fence.wide.fn 51 := trivial
    have hfS : Fence.wide.fn 50 := trivial
    refine callsIn_of_wp Tryz.func25 rfl trivial ?_ rfl
    simp only [Tryz.ntmps25, List.size_toArray, List.length_cons, List.length_nil, Nat.reduceAdd, Nat.reduceSub, Array.replicate_succ, Array.replicate_zero, List.push_toArray, List.append_toArray, List.nil_append, List.cons_append]
    gi_wp2_with (first
      | (gi_at_call 51; refine (Tryz.maps_Keys_51 _ _).mono ?_; rintro e w' ⟨rfl, rfl⟩)
      | (gi_at_call 50; refine (Tryz.slices_Sorted_keys_nil_50_51 w).mono ?_; rintro e w' ⟨v, ss, rfl, hS, hrow, hnil, hb⟩))
    go_ret
    refine ⟨.slice none 0 0, by rw [hnil.2 hS]; rfl, ⟨none, 0, rfl, Nat.le_refl _, fun _ => rfl, fun a ha => by cases ha⟩, ((Below.refl _ w).alloc (Nat.le_refl _) _).trans (hb.mono (by simp)), fun d hd => by cases hd⟩
theorem names_nil (w : World) : Calls Tryz.prog 25 #[.pointer none] w fun e w' => e = .returned (.slice none 0 0) ∧ w = w' := by
  have q := eqNilD
  go_enter Tryz.func25, Tryz.ntmps25
  go_wp2
  go_ret
  exact ⟨rfl, rfl⟩
set_option maxHeartbeats 1000000 in
theorem first_any (sv : Value) (su n : Nat) (xs : List Int) (w : World) (h : Sees w sv xs) (hn : n ≤ xs.length) (hl : xs.length ≤ 100000000000) :
    Calls Tryz.prog 52 #[.agg #[sv, .int .i64 (su : Nat)], .int .i64 (n : Nat)] w fun e w' => ∃ v, e = .returned (.agg #[v, .int .i64 (n : Nat)]) ∧ Owns w' w.heap.size v (xs.take n) ∧ Below w.heap.size w w' := by
  obtain ⟨ao, c, rfl, hlc, hnil, hc⟩ := h
  have hs : Sees w (.slice ao xs.length c) xs := ⟨ao, c, rfl, hlc, hnil, hc⟩
  have e0 : (xs.take n).length = n := by rw [List.length_take]; omega
  have hh : Sees w (.slice ao n c) (xs.take n) := by
    refine ⟨ao, c, by rw [e0], by omega, fun h => by rw [hnil h]; exact List.take_nil, fun a ha i hi => ?_⟩
    rw [e0] at hi
    rw [hc a ha i (by omega)]
    simp only [List.getD, List.getElem?_take, if_pos hi]
  have hb1 := belAlloc (belNew w (.cells #[.slice ao xs.length c, .int .i64 (su : Nat)] 124)) (.cells #[.slice none 0 0, .int .i64 0] 124)
  have HC := Lib.hid (clone_any _ (xs.take n) _ (hh.keep hb1) (by rw [e0]; omega))
  have HB := Lib.hid hb1
  have n1 : n ≤ c := by omega
  clear hs hh hc e0 hb1
  go_enter Tryz.func52, Tryz.ntmps52
  go_wp2_with fail
  refine HC.out.mono ?_; rintro e w1 ⟨v, rfl, ho, hb⟩
  obtain ⟨a2, c2, rfl, -⟩ := id ho.sees
  have hl2 : (xs.take n).length = n := by rw [List.length_take]; omega
  rw [hl2] at ho ⊢
  have hbk : w1.heap[w.heap.size + 1]? = some (.cells #[.slice none 0 0, .int .i64 0] 124 (0, 0)) := (hb.block (w.heap.size + 1) (by simp)).trans (by
    have := heap_alloc_new (w.alloc (.cells #[.slice ao xs.length c, .int .i64 (su : Nat)] 124)) (.cells #[.slice none 0 0, .int .i64 0] 124)
    simpa using this)
  have k0 : w1.cell? ⟨w.heap.size + 1, 0, none⟩ = some (.slice none 0 0) := by simp [World.cell?, hbk]
  have k1 : w1.cell? ⟨w.heap.size + 1, 1, none⟩ = some (.int .i64 0) := by simp [World.cell?, hbk]
  have f0 : w1.frozen? ⟨w.heap.size + 1, 0, none⟩ = false := by simp [World.frozen?, hbk]
  have f1 : w1.frozen? ⟨w.heap.size + 1, 1, none⟩ = false := by simp [World.frozen?, hbk]
  have HO := Lib.hid ho
  have HK := Lib.hid hbk
  clear ho hbk hl2
  go_wp2_with fail
  have hbk := HK.out
  have hs1 := dset hbk 0 (.slice a2 n c2)
  have hs2 := dset hs1 1 (.int .i64 (n : Nat))
  refine bodyPost_ret (v := .agg #[.slice a2 n c2, .int .i64 (n : Nat)]) (by simp [results, Tryz.results52, go_sem, World.cell?, hs2]) rfl ⟨_, rfl, ?_, ?_⟩
  · have hne : (Value.slice a2 n c2).ownBlock = none ∨ (Value.slice a2 n c2).ownBlock ≠ some (w.heap.size + 1) := by
      cases hv : (Value.slice a2 n c2).ownBlock with
      | none => exact Or.inl rfl
      | some d =>
        refine Or.inr (fun e => ?_)
        have h1 := (World.ownsRow.lt HO.out d hv).1
        have h2 := Option.some.inj e
        simp at h1
        omega
    have h1 := World.ownsRow.kept HO.out (grown_set w1 (w.heap.size + 1) 0 (.slice a2 n c2)) hne
    have h2 := World.ownsRow.kept h1 (grown_set _ (w.heap.size + 1) 1 (.int .i64 (n : Nat))) hne
    exact Owns.le h2 (by simp; omega)
  · exact ((bel HB.out hb).setCell (p := ⟨w.heap.size + 1, 0, none⟩) (by simp) _).setCell (p := ⟨w.heap.size + 1, 1, none⟩) (by simp) _
end
section
open Go.RowKit Go.Maps
/-- How many bytes of a file stay. -/
def crashN (ks : List Int) (i : Nat) (u : List Int × Nat) : Nat := u.2 + (if i < ks.length then (ks.getD i 0).toNat % (u.1.length - u.2 + 1) else 0)
def crashU (ks : List Int) (i : Nat) (u : List Int × Nat) : List Int × Nat := (u.1.take (crashN ks i u), crashN ks i u)
def crashF (ks : List Int) : Nat → List FEnt → List FEnt
  | _, [] => []
  | i, f :: r => (f.1, crashU ks i f.2) :: crashF ks (i + 1) r
theorem crashF_len (ks : List Int) : ∀ (fs : List FEnt) (i : Nat), (crashF ks i fs).length = fs.length
  | [], _ => rfl
  | f :: r, i => by rw [crashF, List.length_cons, List.length_cons, crashF_len ks r]
theorem crashF_keys (ks : List Int) : ∀ (fs : List FEnt) (i : Nat), (crashF ks i fs).map (·.1) = fs.map (·.1)
  | [], _ => rfl
  | f :: r, i => by rw [crashF, List.map_cons, List.map_cons, crashF_keys ks r]
theorem crashF_snoc (ks : List Int) : ∀ (fs : List FEnt) (i : Nat) (f : FEnt), crashF ks i (fs ++ [f]) = crashF ks i fs ++ [(f.1, crashU ks (i + fs.length) f.2)]
  | [], i, f => rfl
  | g :: r, i, f => by
    rw [List.cons_append, crashF, crashF_snoc ks r, crashF, List.cons_append, List.length_cons, show i + 1 + r.length = i + (r.length + 1) from by omega]
theorem crashN_le (ks : List Int) (i : Nat) {u : List Int × Nat} (h : u.2 ≤ u.1.length) : u.2 ≤ crashN ks i u ∧ crashN ks i u ≤ u.1.length := by
  unfold crashN
  split
  · have := Nat.mod_lt (ks.getD i 0).toNat (Nat.succ_pos (u.1.length - u.2))
    rw [Nat.succ_eq_add_one] at this
    omega
  · omega
theorem put_set {β : Type} : ∀ (fs : List (List UInt8 × β)) (i : Nat) (v : β) (k : List UInt8), Rising fs → (∃ h : i < fs.length, fs[i].1 = k) → putE k v fs = fs.set i (k, v)
  | [], i, v, k, _, ⟨h, _⟩ => by cases h
  | y :: r, 0, v, k, hr, ⟨_, hk⟩ => by
    obtain ⟨h1, h2⟩ := List.pairwise_cons.1 hr
    have hy : y.1 = k := hk
    have e1 : delE k (y :: r) = r := by
      unfold delE
      rw [List.filter_cons_of_neg (by simp [hy])]
      refine List.filter_eq_self.2 fun p hp => ?_
      have hb := h1 p hp
      have : p.1 ≠ k := by rintro rfl; rw [hy] at hb; rw [WideAt.bytes_irrefl] at hb; cases hb
      simp [this]
    unfold putE
    rw [e1]
    cases r with
    | nil => rfl
    | cons z r =>
      have hb := h1 z List.mem_cons_self
      rw [insE, if_pos (by rw [← hy]; exact hb)]
      rfl
  | y :: r, i + 1, v, k, hr, ⟨h, hk⟩ => by
    obtain ⟨h1, h2⟩ := List.pairwise_cons.1 hr
    have hir : i < r.length := by simpa using h
    have hk' : r[i].1 = k := by simpa using hk
    have hb : bytesBefore y.1 k = true := by rw [← hk']; exact h1 _ (List.getElem_mem hir)
    have hne : y.1 ≠ k := by intro e; rw [e, WideAt.bytes_irrefl] at hb; cases hb
    have hnb : ¬ bytesBefore k y.1 = true := fun hb2 => by
      have := WideShapes.bytes_trans _ _ _ hb hb2
      rw [WideAt.bytes_irrefl] at this
      cases this
    have ih := put_set r i v k h2 ⟨hir, hk'⟩
    unfold putE at ih ⊢
    have e1 : delE k (y :: r) = y :: delE k r := by unfold delE; rw [List.filter_cons_of_pos (by simp [hne])]
    rw [e1, insE, if_neg hnb, ih, List.set_cons_succ]
theorem get_at {β : Type} : ∀ (fs : List (List UInt8 × β)) (i : Nat) (k : List UInt8), Rising fs → (h : i < fs.length) → fs[i].1 = k → getE fs k = some fs[i].2
  | [], i, k, _, h, _ => by cases h
  | y :: r, 0, k, _, _, hk => by
    have hy : y.1 = k := hk
    unfold getE
    rw [List.find?_cons, show (y.1 == k) = true from by simp [hy]]
    rfl
  | y :: r, i + 1, k, hr, h, hk => by
    obtain ⟨h1, h2⟩ := List.pairwise_cons.1 hr
    have hir : i < r.length := by simpa using h
    have hk' : r[i].1 = k := by simpa using hk
    have hb : bytesBefore y.1 k = true := by rw [← hk']; exact h1 _ (List.getElem_mem hir)
    have hne : y.1 ≠ k := by intro e; rw [e, WideAt.bytes_irrefl] at hb; cases hb
    have ih := get_at r i k h2 hir hk'
    unfold getE at ih ⊢
    rw [List.find?_cons, show (y.1 == k) = false from by simp [hne]]
    exact ih
theorem Step.trans {P P' P'' : Nat → Prop} {a b c : World} (h : Step P P' a b) (k : Step P' P'' b c) : Step P P'' a c :=
  ⟨h.1.trans k.1 (fun i hi hp => (h.2 i hp).resolve_right (by omega)), fun i hi => (k.2 i hi).elim (fun h' => h.2 i h') (fun h' => Or.inr (Nat.le_trans h.1.2.2.2.1 h'))⟩
theorem Step.refl (P : Nat → Prop) (w : World) : Step P P w w := ⟨Touch.refl _ _, fun _ h => Or.inl h⟩
theorem Step.below {P P' : Nat → Prop} {a b c : World} (h : Below a.heap.size a b) (k : Step P P' b c) : Step P P' a c :=
  ⟨(Touch.of_below _ h).trans k.1 (fun _ _ h => h), fun i hi => (k.2 i hi).imp id (fun h' => Nat.le_trans h.size h')⟩
theorem Step.mk' {P : Nat → Prop} {g : Nat} {a b : World} (hg : P g) (h : Touch (· = g) a b) : Step P P a b := ⟨h.mono (fun i _ e => by rw [e]; exact hg), fun _ h => Or.inl h⟩
def crashD (D : DSt) (ks : List Int) : DSt := ⟨crashF ks 0 D.fs, false, false, 0⟩
/-- The files when i of them have been looked at. -/
def midF (ks : List Int) (fs : List FEnt) (i : Nat) : List FEnt := crashF ks 0 (fs.take i) ++ fs.drop i
theorem midF_len (ks : List Int) (fs : List FEnt) (i : Nat) : (midF ks fs i).length = fs.length := by unfold midF; rw [List.length_append, crashF_len, List.length_take, List.length_drop]; omega
theorem midF_keys (ks : List Int) (fs : List FEnt) (i : Nat) : (midF ks fs i).map (·.1) = fs.map (·.1) := by
  unfold midF
  rw [List.map_append, crashF_keys, ← List.map_append, List.take_append_drop]
theorem midF_at (ks : List Int) (fs : List FEnt) (i : Nat) (hi : i < fs.length) : (midF ks fs i)[i]? = some fs[i] := by
  unfold midF
  have e : (crashF ks 0 (fs.take i)).length = i := by rw [crashF_len, List.length_take]; omega
  rw [List.getElem?_append_right (by omega), e, Nat.sub_self, List.getElem?_drop, Nat.add_zero, List.getElem?_eq_getElem hi]
theorem midF_set (ks : List Int) (fs : List FEnt) (i : Nat) (hi : i < fs.length) : (midF ks fs i).set i (fs[i].1, crashU ks i fs[i].2) = midF ks fs (i + 1) := by
  unfold midF
  have e : (crashF ks 0 (fs.take i)).length = i := by rw [crashF_len, List.length_take]; omega
  have e2 : fs.take (i + 1) = fs.take i ++ [fs[i]] := by rw [List.take_succ_eq_append_getElem hi]
  have e3 : fs.drop i = fs[i] :: fs.drop (i + 1) := List.drop_eq_getElem_cons hi
  rw [List.set_append_right _ _ (by omega), e, Nat.sub_self, e3, List.set_cons_zero, e2, crashF_snoc, List.length_take, show 0 + min i fs.length = i from by omega, List.append_assoc]
  rfl
theorem SeesT.keep {w w' : World} {v : Value} {ks : List (List UInt8)} (h : SeesT w v ks) (hb : ∀ d, v.ownBlock = some d → d < w.heap.size → w'.heap[d]? = w.heap[d]?) : SeesT w' v ks := by
  obtain ⟨ao, c, rfl, hl, hn, hc⟩ := h
  exact ⟨ao, c, rfl, hl, hn, fun a ha i hi => by
    have h1 := hc a ha i hi
    have h2 := cell_lt8 h1
    rw [World.cell?_of_block (w := w) (w' := w') (by subst ha; rw [add_block]; exact hb _ rfl (by rwa [add_block] at h2))]
    exact h1⟩
theorem SeesU.keep {w w' : World} {v : Value} {ks : List Int} (h : SeesU w v ks) (hb : ∀ d, v.ownBlock = some d → d < w.heap.size → w'.heap[d]? = w.heap[d]?) : SeesU w' v ks := by
  obtain ⟨ao, c, rfl, hl, hn, hc⟩ := h
  exact ⟨ao, c, rfl, hl, hn, fun a ha i hi => by
    have h1 := hc a ha i hi
    have h2 := cell_lt8 h1
    rw [World.cell?_of_block (w := w) (w' := w') (by subst ha; rw [add_block]; exact hb _ rfl (by rwa [add_block] at h2))]
    exact h1⟩
theorem SeesU.keep' {w w' : World} {v : Value} {ks : List Int} (h : SeesU w v ks) (hb : ks ≠ [] → ∀ d, v.ownBlock = some d → d < w.heap.size → w'.heap[d]? = w.heap[d]?) : SeesU w' v ks := by
  by_cases h0 : ks = []
  · subst h0
    obtain ⟨ao, c, e, h1, h2, _⟩ := h
    exact ⟨ao, c, e, h1, h2, fun a _ i hi => by cases hi⟩
  · exact h.keep (hb h0)
theorem crash_nil (v : Value) (w : World) : Calls Tryz.prog 26 #[.pointer none, v] w fun e w' => e = .returned (.tuple #[]) ∧ w = w' := by
  have q := eqNilD
  go_enter Tryz.func26, Tryz.ntmps26
  go_wp2
  refine bodyPost_ret (results_none rfl _ _ _) rfl ⟨rfl, rfl⟩
set_option maxRecDepth 100000 in
set_option linter.unusedSimpArgs false in
set_option maxHeartbeats 2000000 in
theorem crash_any (g : Nat) (P : Nat → Prop) (D : DSt) (kv : Value) (ks : List Int) (w : World) (h : DiskAt w g P D) (hn : D.fs.length ≤ 1000000) (hall : ∀ f ∈ D.fs, f.1.length ≤ maxLen ∧ f.2.1.length ≤ 100000000000)
    (hk : SeesU w kv ks) (hkb : ∀ x ∈ ks, 0 ≤ x ∧ x < 65536) (hkP : ks ≠ [] → ∀ d, kv.ownBlock = some d → ¬ P d) :
    Calls Tryz.prog 26 #[ptr g, kv] w fun e w' => ∃ P', e = .returned (.tuple #[]) ∧ DiskAt w' g P' (crashD D ks) ∧ Step P P' w w' := by
  have q := eqNilD
  have HN := Lib.hid (names_any g P D w h hn)
  have HH := Lib.hid h
  obtain ⟨ko, kc, rfl, hkc, hkn, hkcell⟩ := hk
  have HK := Lib.hid (show SeesU w (.slice ko ks.length kc) ks from ⟨ko, kc, rfl, hkc, hkn, hkcell⟩)
  have HKP := Lib.hid hkP
  have HKB := Lib.hid hkb
  have HA := Lib.hid hall
  have HPl : Hid (∀ i, P i → i < w.heap.size) := Lib.hid (by obtain ⟨_, _, _, _, _, _, _, _, h7, _⟩ := h; exact h7)
  clear h hkcell hkP hkb hall hkn
  go_enter Tryz.func26, Tryz.ntmps26
  go_wp2_with fail
  refine HN.out.mono ?_; rintro e w1 ⟨v1, rfl, hT1, hb1, hfr1⟩
  have HT1 := Lib.hid hT1
  have HFR := Lib.hid hfr1
  have HB1 := Lib.hid hb1
  have hz1 := hb1.size
  obtain ⟨no, nc, hv1, hnc, -⟩ := hT1
  subst hv1
  have hml : (D.fs.map (·.1)).length = D.fs.length := List.length_map _
  rw [hml]
  rw [hml] at HT1 HFR hnc
  clear hfr1 hb1 hml
  go_wp2_with fail
  go_loopw [13] (fun j wr => ∃ i : Nat, i ≤ D.fs.length ∧ j = .int .i64 i ∧ ∃ P', DiskAt wr g P' ⟨midF ks D.fs i, D.lost, D.armed, D.left⟩ ∧ Step P P' w1 wr) (fun j _ => D.fs.length - (intOf j).toNat)
  case atStart => exact ⟨0, Nat.zero_le _, rfl, P, HH.out.below HB1.out, Step.refl _ _⟩
  case round =>
    obtain ⟨i, hi, rfl, P', hD, hS⟩ := hrel
    by_cases hlt : i < D.fs.length
    · obtain ⟨mb, es, h, h2, h3, h4, h5, h6, h7, h8, h9⟩ := hD
      simp only [] at h h4 h8 h9
      have hS1 := hS.1
      have hz2 := hS1.2.2.2.1
      have hnP : ∀ d, d < w1.heap.size → ¬ P d → wr.heap[d]? = w1.heap[d]? := hS1.2.2.2.2
      have hTr := HT1.out.keep (w' := wr) (fun d hd hlt => hnP d hlt (fun hp => Nat.not_lt.2 (HFR.out d hd) (HPl.out d hp)))
      have hKr := HK.out.keep' (w' := wr) (fun h0 d hd hlt => (hnP d (by omega) (HKP.out h0 d hd)).trans (HB1.out.block d hlt))
      have hnotP' : ∀ d, d < w1.heap.size → ¬ P d → ¬ P' d := fun d hd hp hp' => (hS.2 d hp').elim hp (fun h' => by omega)
      obtain ⟨k, hk⟩ : ∃ k, k = D.fs[i].1 := ⟨_, rfl⟩
      obtain ⟨u, hu⟩ : ∃ u, u = D.fs[i].2 := ⟨_, rfl⟩
      have hat : (midF ks D.fs i)[i]? = some (k, u) := by rw [midF_at ks D.fs i hlt, hk, hu]
      obtain ⟨hil, hie⟩ := List.getElem?_eq_some_iff.1 hat
      have hri : Rising (midF ks D.fs i) := by
        have h10 : (es.map (·.1)).Pairwise (fun a b => bytesBefore a b = true) := List.pairwise_map.2 h6
        rw [keys_all2 h4] at h10
        exact List.pairwise_map.1 h10
      have hget : getE (midF ks D.fs i) k = some u := by
        have := get_at _ i k hri hil (by rw [hie])
        rw [hie] at this
        exact this
      have hput : putE k (crashU ks i u) (midF ks D.fs i) = midF ks D.fs (i + 1) := by
        rw [put_set _ i _ k hri ⟨hil, by rw [hie]⟩, hk, hu]
        exact midF_set ks D.fs i hlt
      obtain ⟨b, rfl⟩ : ∃ b, mb = some b := by
        cases mb with
        | none =>
          have e := h.2.2.1 rfl
          have e2 := All2.len h4
          rw [e, midF_len] at e2
          simp at e2
          omega
        | some b => exact ⟨b, rfl⟩
      obtain ⟨sv, hv, ho, hko, hsu, hsv, -⟩ := file_of h4 k
      rw [hget] at hv ho hko hsu
      simp only [Option.getD_some] at hv ho hko hsu
      have hA2 := HA.out (k, u) (by rw [hk, hu]; exact List.getElem_mem hlt)
      obtain ⟨s, hs⟩ : ∃ s : ByteArray, s = ⟨k.toArray⟩ := ⟨_, rfl⟩
      have hsk : s.data.toList = k := by rw [hs]
      have hss : s.size ≤ maxLen := by
        rw [hs]
        show k.toArray.size ≤ _
        rw [List.size_toArray]
        exact hA2.1
      have hL := (h.look hss false)
      rw [hsk, hv] at hL
      simp only [Bool.false_eq_true, if_false] at hL
      obtain ⟨a, rfl⟩ : ∃ a, no = some a := by
        obtain ⟨_, _, e1, _, e2, _⟩ := hTr
        injection e1 with e1 _ _
        subst e1
        cases no with
        | none =>
          have e3 := congrArg List.length (e2 rfl)
          rw [List.length_map, List.length_nil] at e3
          omega
        | some a => exact ⟨a, rfl⟩
      have hcell : wr.cell? (a.add i) = some (.string s) := by
        obtain ⟨_, _, e1, _, _, e2⟩ := hTr
        injection e1 with e1 _ _
        subst e1
        rw [e2 a rfl i (by simpa using hlt), hs]
        have e3 : (D.fs.map (·.1)).getD i [] = k := by simp [List.getD, hlt, hk]
        rw [e3]
      obtain ⟨N, hN⟩ : ∃ N, N = crashN ks i u := ⟨_, rfl⟩
      have hNle := crashN_le ks i hsu
      rw [← hN] at hNle
      have hcu : crashU ks i u = (u.1.take N, N) := by unfold crashU; rw [hN]
      obtain ⟨ao, c, rfl, -⟩ := id ho.sees
      have hsee := ho.sees
      obtain ⟨c0, -⟩ := dcells h.1
      have b0 : (0 : Int) ≤ (i : Int) := by omega
      have b1 : (i : Int) < (D.fs.length : Int) := by omega
      have HX := Lib.hid (And.intro h (And.intro h4 (And.intro ho (And.intro hko (And.intro hsu (And.intro hsv hsee))))))
      have HS := Lib.hid hS
      have HPT := Lib.hid (And.intro hput hcu)
      have HSK := Lib.hid hsk
      have HNN := Lib.hid hN
      have ul := hA2.2
      simp only [] at ul
      have hgl : g < wr.heap.size := heap_lt h.1
      have hlenE : es.length ≤ 1000000 := by rw [All2.len h4, midF_len]; exact hn
      clear h h4 ho hko hv hsv hsee hS hS1 hnP hTr hat hil hie hri hget hput hA2 hs hcu hk hu hnotP' hsk hN
      by_cases hki : i < ks.length
      · have d0 : decide ((i : Int) < (ks.length : Int)) = true := by simp; omega
        obtain ⟨X, hX⟩ : ∃ X, X = ks.getD i 0 := ⟨_, rfl⟩
        have hXb := HKB.out X (by rw [hX]; simp [List.getD, hki])
        obtain ⟨M, hM⟩ : ∃ M : Nat, M = X.toNat % (u.1.length - u.2 + 1) := ⟨_, rfl⟩
        have hNM : N = u.2 + M := by rw [HNN.out]; unfold crashN; rw [if_pos hki, ← hX, hM]
        have hsu0 := HX.out.2.2.2.2.1
        have s1 : IntKind.i64.wrap X = X := IntWalk.i64_in _ (by omega)
        have s2 : IntKind.i64.wrap ((u.1.length : Int) - (u.2 : Nat)) = u.1.length - (u.2 : Nat) := IntWalk.i64_in _ (by omega)
        have s3 : IntKind.i64.wrap ((u.1.length : Int) - (u.2 : Nat) + 1) = u.1.length - (u.2 : Nat) + 1 := IntWalk.i64_in _ (by omega)
        have s4 : X % ((u.1.length : Int) - (u.2 : Nat) + 1) = (M : Nat) := by
          have e1 : X = (X.toNat : Int) := by omega
          have e2 : (u.1.length : Int) - (u.2 : Nat) + 1 = ((u.1.length - u.2 + 1 : Nat) : Int) := by omega
          rw [hM, Int.natCast_emod, ← e2, ← e1]
        have s5 : Int.tmod X ((u.1.length : Int) - (u.2 : Nat) + 1) = (M : Nat) := by rw [Int.tmod_eq_emod_of_nonneg hXb.1]; exact s4
        have s6 : ¬ ((u.1.length : Int) - (u.2 : Nat) + 1 = 0) := by omega
        have s7 : IntKind.i64.wrap ((u.2 : Nat) + (M : Nat) : Int) = (N : Nat) := by rw [hNM]; exact IntWalk.i64_in _ (by have := hNle.2; omega)
        obtain ⟨ka, rfl⟩ : ∃ ka, ko = some ka := by
          obtain ⟨_, _, e1, _, e2, _⟩ := hKr
          cases e1
          cases ko with
          | none => rw [e2 rfl] at hki; simp at hki
          | some ka => exact ⟨ka, rfl⟩
        have hkc0 : wr.cell? (ka.add i) = some (.int .u16 X) := by
          obtain ⟨_, _, e1, _, _, e2⟩ := hKr
          cases e1
          rw [e2 ka rfl i hki, hX]
        have b2 : (i : Int) < (ks.length : Int) := by omega
        clear hX hM hNM hKr
        have hbA := belNew wr (.cells #[.slice ao u.1.length c, .int .i64 (u.2 : Nat)] 124)
        obtain ⟨W, hW⟩ : ∃ W, W = wr.alloc (.cells #[.slice ao u.1.length c, .int .i64 (u.2 : Nat)] 124) := ⟨_, rfl⟩
        rw [← hW] at hbA
        have hWL : W.heap[wr.heap.size]? = some (.cells #[.slice ao u.1.length c, .int .i64 (u.2 : Nat)] 124 (0, 0)) := by rw [hW]; exact heap_alloc_new wr _
        have p0 : W.cell? ⟨wr.heap.size, 0, none⟩ = some (.slice ao u.1.length c) := by simp [World.cell?, hWL]
        have p1 : W.cell? ⟨wr.heap.size, 1, none⟩ = some (.int .i64 (u.2 : Nat)) := by simp [World.cell?, hWL]
        have hDW := HX.out.1.keep hbA
        obtain ⟨m0, -⟩ := dcells hDW.1
        have hseeW := HX.out.2.2.2.2.2.2.keep hbA
        have HWW := Lib.hid hW
        have HWL := Lib.hid hWL
        have HW3 := Lib.hid (And.intro hbA (And.intro hDW hseeW))
        have hkW : W.cell? (ka.add i) = some (.int .u16 X) := by rw [hbA.cell (cell_lt8 hkc0)]; exact hkc0
        clear hkc0
        clear hW hWL hbA hDW hseeW
        have HC := Lib.hid (And.intro p0 (And.intro p1 m0))
        clear p0 p1 m0
        go_upto_region 5 with fail
        rw [← HWW.out]
        obtain ⟨p0, p1, m0⟩ := HC.out
        clear c0 hcell hL
        go_wp2_with fail
        go_quiet (fail)
        go_wp2_with fail
        obtain ⟨V, hV⟩ : ∃ V, V = W.drewN nq := ⟨_, rfl⟩
        rw [← hV]
        have p0' : V.cell? ⟨wr.heap.size, 0, none⟩ = some (.slice ao u.1.length c) := by rw [hV]; exact p0
        have p1' : V.cell? ⟨wr.heap.size, 1, none⟩ = some (.int .i64 (u.2 : Nat)) := by rw [hV]; exact p1
        have m0' : V.cell? ⟨g, 0, none⟩ = some (.map (some b)) := by rw [hV]; exact m0
        have HWL : Hid (V.heap[wr.heap.size]? = some (.cells #[.slice ao u.1.length c, .int .i64 (u.2 : Nat)] 124 (0, 0))) := Lib.hid (by rw [hV]; exact HWL.out)
        have HW3 : Hid (Below wr.heap.size wr V ∧ DiskE V g (some b) es D.lost D.armed D.left ∧ Sees V (.slice ao u.1.length c) u.1) := Lib.hid (by rw [hV]; exact ⟨below_drewN HW3.out.1 nq, HW3.out.2.1, HW3.out.2.2⟩)
        clear p0 p1 m0 hV hkW
        refine wp_region_held_drew (S := (fun W => W.cell? ⟨g, 0, none⟩ = some (.map (some b)) ∧ W.cell? ⟨wr.heap.size, 0, none⟩ = some (.slice ao u.1.length c) ∧ W.cell? ⟨wr.heap.size, 1, none⟩ = some (.int .i64 (u.2 : Nat)) ∧ Sees W (.slice ao u.1.length c) u.1)) (by kernel_rfl) ?_ (fun r0 => ?_)
        · exact ⟨m0', p0', p1', HW3.out.2.2⟩
        refine wpAnyH_take (i := 0) (v := ?_) rfl (by kernel_rfl) (by kernel_rfl) (by kernel_rfl) (fun _ _ _ h => h) (Or.inl ⟨by rfl, ?_⟩) (by assumption) ?_
        rotate_left
        · intro w hSw
          (try dsimp only at hSw)
          go_simp
          first | done | with_reducible rfl
        try simp only [Act.put, List.getElem_toArray, List.getElem_cons_succ, List.getElem_cons_zero, List.setIfInBounds_toArray, List.set_cons_zero, List.set_cons_succ]
        refine wpAnyH_take (i := 1) (v := ?_) rfl (by kernel_rfl) (by kernel_rfl) (by kernel_rfl) (fun _ _ _ h => h) (Or.inl ⟨by rfl, ?_⟩) (by assumption) ?_
        rotate_left
        · intro w hSw
          (try dsimp only at hSw)
          go_simp
          first | done | with_reducible rfl
        try simp only [Act.put, List.getElem_toArray, List.getElem_cons_succ, List.getElem_cons_zero, List.setIfInBounds_toArray, List.set_cons_zero, List.set_cons_succ]
        refine wpAnyH_take (i := 2) (v := ?_) rfl (by kernel_rfl) (by kernel_rfl) (by kernel_rfl) (fun _ _ _ h => h) (Or.inl ⟨by rfl, ?_⟩) (by assumption) ?_
        rotate_left
        · intro w hSw
          (try dsimp only at hSw)
          go_simp
          first | done | with_reducible rfl
        try simp only [Act.put, List.getElem_toArray, List.getElem_cons_succ, List.getElem_cons_zero, List.setIfInBounds_toArray, List.set_cons_zero, List.set_cons_succ]
        refine wpAnyH_take (i := 3) (v := ?_) rfl (by kernel_rfl) (by kernel_rfl) (by kernel_rfl) (fun _ _ _ h => h) (Or.inl ⟨by rfl, ?_⟩) (by assumption) ?_
        rotate_left
        · intro w hSw
          (try dsimp only at hSw)
          go_simp
          first | done | with_reducible rfl
        try simp only [Act.put, List.getElem_toArray, List.getElem_cons_succ, List.getElem_cons_zero, List.setIfInBounds_toArray, List.set_cons_zero, List.set_cons_succ]
        refine wpAnyH_take (i := 4) (v := ?_) rfl (by kernel_rfl) (by kernel_rfl) (by kernel_rfl) (fun _ _ _ h => h) (Or.inl ⟨by rfl, ?_⟩) (by assumption) ?_
        rotate_left
        · intro w hSw
          (try dsimp only at hSw)
          go_simp
          first | done | with_reducible rfl
        try simp only [Act.put, List.getElem_toArray, List.getElem_cons_succ, List.getElem_cons_zero, List.setIfInBounds_toArray, List.set_cons_zero, List.set_cons_succ]
        refine wpAnyH_take (i := 5) (v := ?_) rfl (by kernel_rfl) (by kernel_rfl) (by kernel_rfl) (fun _ _ _ h => h) (Or.inl ⟨by rfl, ?_⟩) (by assumption) ?_
        rotate_left
        · intro w hSw
          (try dsimp only at hSw)
          go_simp
          first | done | with_reducible rfl
        try simp only [Act.put, List.getElem_toArray, List.getElem_cons_succ, List.getElem_cons_zero, List.setIfInBounds_toArray, List.set_cons_zero, List.set_cons_succ]
        refine wpAnyH_take (i := 6) (v := ?_) rfl (by kernel_rfl) (by kernel_rfl) (by kernel_rfl) (fun _ _ _ h => h) (Or.inl ⟨by rfl, ?_⟩) (by assumption) ?_
        rotate_left
        · intro w hSw
          (try dsimp only at hSw)
          go_simp
          first | done | with_reducible rfl
        try simp only [Act.put, List.getElem_toArray, List.getElem_cons_succ, List.getElem_cons_zero, List.setIfInBounds_toArray, List.set_cons_zero, List.set_cons_succ]
        refine wpAnyH_take (i := 7) (v := ?_) rfl (by kernel_rfl) (by kernel_rfl) (by kernel_rfl) (fun _ _ _ h => h) (Or.inl ⟨by rfl, ?_⟩) (by assumption) ?_
        rotate_left
        · intro w hSw
          (try dsimp only at hSw)
          go_simp
          first | done | with_reducible rfl
        try simp only [Act.put, List.getElem_toArray, List.getElem_cons_succ, List.getElem_cons_zero, List.setIfInBounds_toArray, List.set_cons_zero, List.set_cons_succ]
        refine wpAnyH_take (i := 8) (v := ?_) rfl (by kernel_rfl) (by kernel_rfl) (by kernel_rfl) (fun _ _ _ h => h) (Or.inl ⟨by rfl, ?_⟩) (by assumption) ?_
        rotate_left
        · intro w hSw
          (try dsimp only at hSw)
          go_simp
          first | done | with_reducible rfl
        try simp only [Act.put, List.getElem_toArray, List.getElem_cons_succ, List.getElem_cons_zero, List.setIfInBounds_toArray, List.set_cons_zero, List.set_cons_succ]
        refine wpAnyH_take (i := 9) (v := ?_) rfl (by kernel_rfl) (by kernel_rfl) (by kernel_rfl) (fun _ _ _ h => h) (Or.inl ⟨by rfl, ?_⟩) (by assumption) ?_
        rotate_left
        · intro w hSw
          (try dsimp only at hSw)
          go_simp
          first | done | with_reducible rfl
        try simp only [Act.put, List.getElem_toArray, List.getElem_cons_succ, List.getElem_cons_zero, List.setIfInBounds_toArray, List.set_cons_zero, List.set_cons_succ]
        refine wpAnyH_ready (rs := [10]) (by kernel_rfl) (by simp) ?_
        refine AllReadyH.cons rfl (fun K hK => ?_) AllReadyH.nil
        go_simp
        refine (first_any (.slice ao u.1.length c) u.2 N u.1 _ r0.2.2.2 hNle.2 ul).mono ?_; rintro e w4 ⟨v4, rfl, ho4, hb4⟩
        obtain ⟨a4, c4, hv4, -⟩ := id ho4.sees
        rw [show (u.1.take N).length = N from by rw [List.length_take]; omega] at hv4
        subst hv4
        have hb4' : Below (V).heap.size (V) w4 := ⟨hb4.os, hb4.tape, hb4.output, hb4.size, hb4.block⟩
        have hM4 : MapIs w4 b es.length es := (HW3.out.2.1.2.1 b rfl).heap (hb4'.block b (HW3.out.2.1.2.1 b rfl).lt)
        have hkp : ∀ (q : Addr) (x : Value), (V).cell? q = some x → w4.cell? q = some x := fun q x hq => (hb4'.cell (World.block_lt_of_cell? _ _ hq)).trans hq
        have hs4 : Sees w4 (.slice ao u.1.length c) u.1 := HW3.out.2.2.keep hb4'
        refine hK.out _ _ ?_ (fun r1 => ?_)
        · exact ⟨hkp _ _ r0.1, hkp _ _ r0.2.1, hkp _ _ r0.2.2.1, hs4⟩
        try simp only [Act.put, List.getElem_toArray, List.getElem_cons_succ, List.getElem_cons_zero, List.setIfInBounds_toArray, List.set_cons_zero, List.set_cons_succ]
        obtain ⟨w5, hrun, hm5, hg5⟩ := hM4.put (by unfold maxLen; omega) hss (.agg #[.slice a4 N c4, .int .i64 (N : Nat)])
        refine wpAnyH_ready (rs := [11]) (by kernel_rfl) (by simp) ?_
        refine AllReadyH.cons rfl (fun K hK => ?_) AllReadyH.nil
        have hD4 := HW3.out.2.1.keep hb4'
        have hkq : ∀ (q : Addr) (x : Value), q.block ≠ b → w4.cell? q = some x → w5.cell? q = some x := fun q x hn hq => (World.cell?_of_block (hg5.block q.block (World.block_lt_of_cell? _ _ hq) (fun e => hn (Option.some.inj e)))).trans hq
        have hL4 : w4.heap[wr.heap.size]? = some (.cells #[.slice ao u.1.length c, .int .i64 (u.2 : Nat)] 124 (0, 0)) := (hb4'.block wr.heap.size (heap_lt HWL.out)).trans HWL.out
        have hs5 : Sees w5 (.slice ao u.1.length c) u.1 := sees_heap hs4 (fun d hd hlt => hg5.block d hlt (fun e => own_ne_map HX.out.2.2.1 (HX.out.1.2.1 b rfl) (hd.trans e)))
        go_simp
        refine hK.out _ _ ?_ (fun r2 => ?_)
        · exact ⟨hkq _ _ ((hD4.2.1 b rfl).ne hD4.1).symm r1.1, hkq _ _ ((hD4.2.1 b rfl).ne hL4).symm r1.2.1, hkq _ _ ((hD4.2.1 b rfl).ne hL4).symm r1.2.2.1, hs5⟩
        try simp only [Act.put, List.getElem_toArray, List.getElem_cons_succ, List.getElem_cons_zero, List.setIfInBounds_toArray, List.set_cons_zero, List.set_cons_succ]
        refine wpAnyH_done (by kernel_rfl) ?_ _
        go_wp2_with fail
        go_roundw
        case rel =>
          rw [HSK.out] at hm5
          obtain ⟨h, h4, ho, hko, hsu, hsv, hsee⟩ := HX.out
          have hbW : Below wr.heap.size wr w4 := HW3.out.1.trans (hb4'.mono HW3.out.1.size)
          have hR := put_end (su := N) (sv := .slice ao u.1.length c) (w2 := w4) h h2 (h3 b rfl) h4 h5 h6 h7 hsv (h.keep hbW) (Touch.of_below _ hbW) h8 h9 hm5 hg5 (Owns.le ho4 (Nat.zero_le _)) (hko.take N) (by rw [List.length_take]; omega) (fun d hd => Or.inr (Nat.le_trans HW3.out.1.size (World.ownsRow.lt ho4 d hd).1))
          rw [← HPT.out.2, HPT.out.1] at hR
          exact ⟨i + 1, by omega, by go_num, _, hR.1, HS.out.trans hR.2⟩
        case measure => simp [intOf]; omega
      · have d0 : decide ((i : Int) < (ks.length : Int)) = false := by simp; omega
        obtain rfl : N = u.2 := by rw [HNN.out]; unfold crashN; rw [if_neg hki, Nat.add_zero]
        have s7 : IntKind.i64.wrap ((u.2 : Nat) : Int) = (u.2 : Nat) := IntWalk.i64_in _ (by have := hNle.2; omega)
        have s8 : IntKind.i64.wrap ((u.2 : Nat) + 0 : Int) = (u.2 : Nat) := by rw [Int.add_zero]; exact s7
        clear hKr
        have hbA := belNew wr (.cells #[.slice ao u.1.length c, .int .i64 (u.2 : Nat)] 124)
        obtain ⟨W, hW⟩ : ∃ W, W = wr.alloc (.cells #[.slice ao u.1.length c, .int .i64 (u.2 : Nat)] 124) := ⟨_, rfl⟩
        rw [← hW] at hbA
        have hWL : W.heap[wr.heap.size]? = some (.cells #[.slice ao u.1.length c, .int .i64 (u.2 : Nat)] 124 (0, 0)) := by rw [hW]; exact heap_alloc_new wr _
        have p0 : W.cell? ⟨wr.heap.size, 0, none⟩ = some (.slice ao u.1.length c) := by simp [World.cell?, hWL]
        have p1 : W.cell? ⟨wr.heap.size, 1, none⟩ = some (.int .i64 (u.2 : Nat)) := by simp [World.cell?, hWL]
        have hDW := HX.out.1.keep hbA
        obtain ⟨m0, -⟩ := dcells hDW.1
        have hseeW := HX.out.2.2.2.2.2.2.keep hbA
        have HWW := Lib.hid hW
        have HWL := Lib.hid hWL
        have HW3 := Lib.hid (And.intro hbA (And.intro hDW hseeW))
        clear hW hWL hbA hDW hseeW
        have HC := Lib.hid (And.intro p0 (And.intro p1 m0))
        clear p0 p1 m0
        go_upto_region 5 with fail
        rw [← HWW.out]
        obtain ⟨p0, p1, m0⟩ := HC.out
        clear c0 hcell hL
        go_wp2_with fail
        refine wp_region_held_drew (S := (fun W => W.cell? ⟨g, 0, none⟩ = some (.map (some b)) ∧ W.cell? ⟨wr.heap.size, 0, none⟩ = some (.slice ao u.1.length c) ∧ W.cell? ⟨wr.heap.size, 1, none⟩ = some (.int .i64 (u.2 : Nat)) ∧ Sees W (.slice ao u.1.length c) u.1)) (by kernel_rfl) ?_ (fun r0 => ?_)
        · exact ⟨m0, p0, p1, HW3.out.2.2⟩
        refine wpAnyH_take (i := 0) (v := ?_) rfl (by kernel_rfl) (by kernel_rfl) (by kernel_rfl) (fun _ _ _ h => h) (Or.inl ⟨by rfl, ?_⟩) (by assumption) ?_
        rotate_left
        · intro w hSw
          (try dsimp only at hSw)
          go_simp
          first | done | with_reducible rfl
        try simp only [Act.put, List.getElem_toArray, List.getElem_cons_succ, List.getElem_cons_zero, List.setIfInBounds_toArray, List.set_cons_zero, List.set_cons_succ]
        refine wpAnyH_take (i := 1) (v := ?_) rfl (by kernel_rfl) (by kernel_rfl) (by kernel_rfl) (fun _ _ _ h => h) (Or.inl ⟨by rfl, ?_⟩) (by assumption) ?_
        rotate_left
        · intro w hSw
          (try dsimp only at hSw)
          go_simp
          first | done | with_reducible rfl
        try simp only [Act.put, List.getElem_toArray, List.getElem_cons_succ, List.getElem_cons_zero, List.setIfInBounds_toArray, List.set_cons_zero, List.set_cons_succ]
        refine wpAnyH_take (i := 2) (v := ?_) rfl (by kernel_rfl) (by kernel_rfl) (by kernel_rfl) (fun _ _ _ h => h) (Or.inl ⟨by rfl, ?_⟩) (by assumption) ?_
        rotate_left
        · intro w hSw
          (try dsimp only at hSw)
          go_simp
          first | done | with_reducible rfl
        try simp only [Act.put, List.getElem_toArray, List.getElem_cons_succ, List.getElem_cons_zero, List.setIfInBounds_toArray, List.set_cons_zero, List.set_cons_succ]
        refine wpAnyH_take (i := 3) (v := ?_) rfl (by kernel_rfl) (by kernel_rfl) (by kernel_rfl) (fun _ _ _ h => h) (Or.inl ⟨by rfl, ?_⟩) (by assumption) ?_
        rotate_left
        · intro w hSw
          (try dsimp only at hSw)
          go_simp
          first | done | with_reducible rfl
        try simp only [Act.put, List.getElem_toArray, List.getElem_cons_succ, List.getElem_cons_zero, List.setIfInBounds_toArray, List.set_cons_zero, List.set_cons_succ]
        refine wpAnyH_take (i := 4) (v := ?_) rfl (by kernel_rfl) (by kernel_rfl) (by kernel_rfl) (fun _ _ _ h => h) (Or.inl ⟨by rfl, ?_⟩) (by assumption) ?_
        rotate_left
        · intro w hSw
          (try dsimp only at hSw)
          go_simp
          first | done | with_reducible rfl
        try simp only [Act.put, List.getElem_toArray, List.getElem_cons_succ, List.getElem_cons_zero, List.setIfInBounds_toArray, List.set_cons_zero, List.set_cons_succ]
        refine wpAnyH_take (i := 5) (v := ?_) rfl (by kernel_rfl) (by kernel_rfl) (by kernel_rfl) (fun _ _ _ h => h) (Or.inl ⟨by rfl, ?_⟩) (by assumption) ?_
        rotate_left
        · intro w hSw
          (try dsimp only at hSw)
          go_simp
          first | done | with_reducible rfl
        try simp only [Act.put, List.getElem_toArray, List.getElem_cons_succ, List.getElem_cons_zero, List.setIfInBounds_toArray, List.set_cons_zero, List.set_cons_succ]
        refine wpAnyH_take (i := 6) (v := ?_) rfl (by kernel_rfl) (by kernel_rfl) (by kernel_rfl) (fun _ _ _ h => h) (Or.inl ⟨by rfl, ?_⟩) (by assumption) ?_
        rotate_left
        · intro w hSw
          (try dsimp only at hSw)
          go_simp
          first | done | with_reducible rfl
        try simp only [Act.put, List.getElem_toArray, List.getElem_cons_succ, List.getElem_cons_zero, List.setIfInBounds_toArray, List.set_cons_zero, List.set_cons_succ]
        refine wpAnyH_take (i := 7) (v := ?_) rfl (by kernel_rfl) (by kernel_rfl) (by kernel_rfl) (fun _ _ _ h => h) (Or.inl ⟨by rfl, ?_⟩) (by assumption) ?_
        rotate_left
        · intro w hSw
          (try dsimp only at hSw)
          go_simp
          first | done | with_reducible rfl
        try simp only [Act.put, List.getElem_toArray, List.getElem_cons_succ, List.getElem_cons_zero, List.setIfInBounds_toArray, List.set_cons_zero, List.set_cons_succ]
        refine wpAnyH_take (i := 8) (v := ?_) rfl (by kernel_rfl) (by kernel_rfl) (by kernel_rfl) (fun _ _ _ h => h) (Or.inl ⟨by rfl, ?_⟩) (by assumption) ?_
        rotate_left
        · intro w hSw
          (try dsimp only at hSw)
          go_simp
          first | done | with_reducible rfl
        try simp only [Act.put, List.getElem_toArray, List.getElem_cons_succ, List.getElem_cons_zero, List.setIfInBounds_toArray, List.set_cons_zero, List.set_cons_succ]
        refine wpAnyH_take (i := 9) (v := ?_) rfl (by kernel_rfl) (by kernel_rfl) (by kernel_rfl) (fun _ _ _ h => h) (Or.inl ⟨by rfl, ?_⟩) (by assumption) ?_
        rotate_left
        · intro w hSw
          (try dsimp only at hSw)
          go_simp
          first | done | with_reducible rfl
        try simp only [Act.put, List.getElem_toArray, List.getElem_cons_succ, List.getElem_cons_zero, List.setIfInBounds_toArray, List.set_cons_zero, List.set_cons_succ]
        refine wpAnyH_ready (rs := [10]) (by kernel_rfl) (by simp) ?_
        refine AllReadyH.cons rfl (fun K hK => ?_) AllReadyH.nil
        go_simp
        refine (first_any (.slice ao u.1.length c) u.2 u.2 u.1 _ r0.2.2.2 hNle.2 ul).mono ?_; rintro e w4 ⟨v4, rfl, ho4, hb4⟩
        obtain ⟨a4, c4, hv4, -⟩ := id ho4.sees
        rw [show (u.1.take u.2).length = u.2 from by rw [List.length_take]; omega] at hv4
        subst hv4
        have hb4' : Below (W).heap.size (W) w4 := ⟨hb4.os, hb4.tape, hb4.output, hb4.size, hb4.block⟩
        have hM4 : MapIs w4 b es.length es := (HW3.out.2.1.2.1 b rfl).heap (hb4'.block b (HW3.out.2.1.2.1 b rfl).lt)
        have hkp : ∀ (q : Addr) (x : Value), (W).cell? q = some x → w4.cell? q = some x := fun q x hq => (hb4'.cell (World.block_lt_of_cell? _ _ hq)).trans hq
        have hs4 : Sees w4 (.slice ao u.1.length c) u.1 := HW3.out.2.2.keep hb4'
        refine hK.out _ _ ?_ (fun r1 => ?_)
        · exact ⟨hkp _ _ r0.1, hkp _ _ r0.2.1, hkp _ _ r0.2.2.1, hs4⟩
        try simp only [Act.put, List.getElem_toArray, List.getElem_cons_succ, List.getElem_cons_zero, List.setIfInBounds_toArray, List.set_cons_zero, List.set_cons_succ]
        obtain ⟨w5, hrun, hm5, hg5⟩ := hM4.put (by unfold maxLen; omega) hss (.agg #[.slice a4 u.2 c4, .int .i64 (u.2 : Nat)])
        refine wpAnyH_ready (rs := [11]) (by kernel_rfl) (by simp) ?_
        refine AllReadyH.cons rfl (fun K hK => ?_) AllReadyH.nil
        have hD4 := HW3.out.2.1.keep hb4'
        have hkq : ∀ (q : Addr) (x : Value), q.block ≠ b → w4.cell? q = some x → w5.cell? q = some x := fun q x hn hq => (World.cell?_of_block (hg5.block q.block (World.block_lt_of_cell? _ _ hq) (fun e => hn (Option.some.inj e)))).trans hq
        have hL4 : w4.heap[wr.heap.size]? = some (.cells #[.slice ao u.1.length c, .int .i64 (u.2 : Nat)] 124 (0, 0)) := (hb4'.block wr.heap.size (heap_lt HWL.out)).trans HWL.out
        have hs5 : Sees w5 (.slice ao u.1.length c) u.1 := sees_heap hs4 (fun d hd hlt => hg5.block d hlt (fun e => own_ne_map HX.out.2.2.1 (HX.out.1.2.1 b rfl) (hd.trans e)))
        go_simp
        refine hK.out _ _ ?_ (fun r2 => ?_)
        · exact ⟨hkq _ _ ((hD4.2.1 b rfl).ne hD4.1).symm r1.1, hkq _ _ ((hD4.2.1 b rfl).ne hL4).symm r1.2.1, hkq _ _ ((hD4.2.1 b rfl).ne hL4).symm r1.2.2.1, hs5⟩
        try simp only [Act.put, List.getElem_toArray, List.getElem_cons_succ, List.getElem_cons_zero, List.setIfInBounds_toArray, List.set_cons_zero, List.set_cons_succ]
        refine wpAnyH_done (by kernel_rfl) ?_ _
        go_wp2_with fail
        go_roundw
        case rel =>
          rw [HSK.out] at hm5
          obtain ⟨h, h4, ho, hko, hsu, hsv, hsee⟩ := HX.out
          have hbW : Below wr.heap.size wr w4 := HW3.out.1.trans (hb4'.mono HW3.out.1.size)
          have hR := put_end (su := u.2) (sv := .slice ao u.1.length c) (w2 := w4) h h2 (h3 b rfl) h4 h5 h6 h7 hsv (h.keep hbW) (Touch.of_below _ hbW) h8 h9 hm5 hg5 (Owns.le ho4 (Nat.zero_le _)) (hko.take u.2) (by rw [List.length_take]; omega) (fun d hd => Or.inr (Nat.le_trans HW3.out.1.size (World.ownsRow.lt ho4 d hd).1))
          rw [← HPT.out.2, HPT.out.1] at hR
          exact ⟨i + 1, by omega, by go_num, _, hR.1, HS.out.trans hR.2⟩
        case measure => simp [intOf]; omega
    · obtain rfl : i = D.fs.length := by omega
      have e1 : midF ks D.fs D.fs.length = crashF ks 0 D.fs := by unfold midF; rw [List.take_length, List.drop_length, List.append_nil]
      rw [e1] at hD
      have HS := Lib.hid hS
      obtain ⟨mb, es, h, h2, h3, h4, h5, h6, h7, h8, h9⟩ := hD
      obtain ⟨c0, c1, c2, c3⟩ := dcells h.1
      have f1 := dfroz h.1 1
      have f2 := dfroz h.1 2
      have f3 := dfroz h.1 3
      have hA := ((h.setLost false).setArmed false).setLeft 0
      have hT : Touch (· = g) wr (((wr.setCell ⟨g, 1, none⟩ (.bool false)).setCell ⟨g, 2, none⟩ (.bool false)).setCell ⟨g, 3, none⟩ (.int .i64 0)) := ((touch_set wr g 1 _).trans (touch_set _ g 2 _) (fun _ _ e => e)).trans (touch_set _ g 3 _) (fun _ _ e => e)
      have HR := Lib.hid (DiskAt.wrote (fs := crashF ks 0 D.fs) h h2 h3 h4 h5 h6 h7 hA hT (Int.le_refl 0) (by decide))
      have HT := Lib.hid (Step.mk' h2 hT)
      clear h h4 hA hT hS e1 hlt
      go_wp2_with fail
      go_end0
      exact ⟨rfl, P', HR.out, Step.below HB1.out (HS.out.trans HT.out)⟩
end
section
open Go.RowKit Go.Maps
set_option maxRecDepth 100000 in
set_option maxHeartbeats 2000000 in
theorem cut_any (g : Nat) (P : Nat → Prop) (D : DSt) (s : ByteArray) (n : Int) (w : World) (h : DiskAt w g P D) (hs : s.size ≤ maxLen) (_ : -9223372036854775808 ≤ n) (_ : n ≤ 9223372036854775807) (hall : ∀ f ∈ D.fs, f.2.1.length ≤ 100000000000) (hn : D.fs.length ≤ 1000000) :
    Calls Tryz.prog 101 #[ptr g, .string s, .int .i64 n] w fun e w' => ∃ P', e = .returned (.int .i64 (cutD D s.data.toList n).1) ∧ DiskAt w' g P' (cutD D s.data.toList n).2 ∧ Step P P' w w' := by
  have HDA := Lib.hid h
  obtain ⟨mb, es, h, h2, h3, h4, h5, h6, h7, h8, h9⟩ := h
  have HF := Lib.hid (find_any g mb es _ _ _ s w h hs)
  obtain ⟨sv, hv, ho, hko, hsu, hsv, hsome⟩ := file_of h4 s.data.toList
  have hsee := ho.sees
  obtain ⟨ao, c, rfl, -⟩ := id hsee
  rw [hv, hsome] at HF
  have hz : g < w.heap.size := heap_lt h.1
  cases hgf : getE D.fs s.data.toList with
  | none =>
    have e1 : cutD D s.data.toList n = (6, D) := by unfold cutD; rw [hgf]
    rw [hgf] at HF
    rw [e1]
    simp only [Option.isSome_none, Bool.false_eq_true, if_false] at HF
    clear h h4 hv ho hko hsu hsv hsome hsee hgf e1
    go_enter Tryz.func101, Tryz.ntmps101
    go_wp2_with fail
    refine HF.out.mono ?_; rintro e w1 ⟨rfl, hb1⟩
    go_wp2_with fail
    go_ret
    refine ⟨P, rfl, HDA.out.below ?_, Touch.of_below P ?_, fun i hi => Or.inl hi⟩
    all_goals
      refine hb1.trans ?_
      repeat (first | exact Below.refl _ _ | refine Below.setCell ?_ (by simp) _ | refine Below.alloc ?_ (by have := hb1.size; simp; omega) _)
  | some u =>
    obtain ⟨b, rfl⟩ : ∃ b, mb = some b := by
      cases hge : getE es s.data.toList with
      | none => rw [hge, hgf] at hsome; cases hsome
      | some v => exact some_map h hge
    rw [hgf] at HF ho hko hsu hv hsee hsv
    simp only [Option.isSome_some, if_true, Option.getD_some] at HF ho hko hsu hv hsee hsv
    have HGF := Lib.hid hgf
    have ul : u.1.length ≤ 100000000000 := hall _ (getE_mem hgf)
    have HH := Lib.hid (And.intro h (And.intro h4 (And.intro hsv (And.intro ho (And.intro hko hsu)))))
    clear h h4 hv ho hko hsu hsv hsome hsee
    by_cases hn0 : n < 0
    · have e1 : cutD D s.data.toList n = (1, D) := by unfold cutD; rw [HGF.out]; simp only []; rw [if_pos (Or.inl hn0)]
      rw [e1]
      clear e1
      have d1 : decide (n < 0) = true := by simpa using hn0
      go_enter Tryz.func101, Tryz.ntmps101
      go_wp2_with fail
      refine HF.out.mono ?_; rintro e w1 ⟨rfl, hb1⟩
      go_wp2_with fail
      go_ret
      refine ⟨P, rfl, HDA.out.below ?_, Touch.of_below P ?_, fun i hi => Or.inl hi⟩
      all_goals
        refine hb1.trans ?_
        repeat (first | exact Below.refl _ _ | refine Below.setCell ?_ (by simp) _ | refine Below.alloc ?_ (by have := hb1.size; simp; omega) _)

    by_cases hn1 : (u.1.length : Int) < n
    · have e1 : cutD D s.data.toList n = (1, D) := by unfold cutD; rw [HGF.out]; simp only []; rw [if_pos (Or.inr hn1)]
      rw [e1]
      clear e1
      have d1 : decide (n < 0) = false := by simpa using hn0
      have d2 : decide ((u.1.length : Int) < n) = true := by simpa using hn1
      go_enter Tryz.func101, Tryz.ntmps101
      go_wp2_with fail
      refine HF.out.mono ?_; rintro e w1 ⟨rfl, hb1⟩
      go_wp2_with fail
      go_ret
      refine ⟨P, rfl, HDA.out.below ?_, Touch.of_below P ?_, fun i hi => Or.inl hi⟩
      all_goals
        refine hb1.trans ?_
        repeat (first | exact Below.refl _ _ | refine Below.setCell ?_ (by simp) _ | refine Below.alloc ?_ (by have := hb1.size; simp; omega) _)

    obtain ⟨m, rfl⟩ : ∃ m : Nat, n = (m : Int) := ⟨n.toNat, by omega⟩
    have hm : m ≤ u.1.length := by omega
    have HNE : Hid (¬ ((m : Int) < 0 ∨ (u.1.length : Int) < (m : Int))) := Lib.hid (by omega)
    have d1 : decide ((m : Int) < 0) = false := by simp
    have d2 : decide ((u.1.length : Int) < (m : Int)) = false := by simp; omega
    clear hn0 hn1
    go_enter Tryz.func101, Tryz.ntmps101
    go_wp2_with fail
    refine HF.out.mono ?_; rintro e w1 ⟨rfl, hb1⟩
    go_wp2_with fail
    obtain ⟨h, h4, hsv, ho, hko, hsu⟩ := HH.out
    have hbA := belAlloc hb1 (.cells #[.slice ao u.1.length c, .int .i64 (u.2 : Nat)] 124)
    have hDA := h.keep hbA
    have hcA : (w1.alloc (.cells #[.slice ao u.1.length c, .int .i64 (u.2 : Nat)] 124)).heap[w1.heap.size]? = some (.cells #[.slice ao u.1.length c, .int .i64 (u.2 : Nat)] 124 (0, 0)) := heap_alloc_new w1 _
    have hz1 := hb1.size
    refine (write_any g (some b) es D.lost D.armed D.left _ hDA h8 h9).mono ?_; rintro e w2 ⟨rfl, hd2, ht2⟩
    have hT : Touch (· = g) w w2 := (Touch.of_below _ hbA).trans ht2 (fun _ _ e => e)
    have hL2 : w2.heap[w1.heap.size]? = some (.cells #[.slice ao u.1.length c, .int .i64 (u.2 : Nat)] 124 (0, 0)) := (ht2.2.2.2.2 _ (by simp) (by omega)).trans hcA
    obtain ⟨l1, hl1⟩ : ∃ l1, l1 = lost1 D.lost D.armed D.left := ⟨_, rfl⟩
    obtain ⟨n1, hn1⟩ : ∃ n1, n1 = left1 D.lost D.armed D.left := ⟨_, rfl⟩
    obtain ⟨q8, q9⟩ := left1_bd (lost := D.lost) (armed := D.armed) h8 h9
    have hE : errW D.lost D.armed D.left = if l1 then 12 else 0 := by unfold errW; rw [hl1]
    rw [← hl1, ← hn1] at hd2
    rw [← hn1] at q8 q9
    have HL := Lib.hid (And.intro hl1 hn1)
    cases l1 with
    | true =>
      have e1 : cutD D s.data.toList (m : Int) = (12, ⟨D.fs, true, D.armed, n1⟩) := by unfold cutD; rw [hgf]; simp only []; rw [if_neg HNE.out, ← hl1, if_pos rfl, ← hn1]
      have E1 := Lib.hid e1
      rw [hE, if_pos rfl]
      have HR := Lib.hid (DiskAt.wrote (fs := D.fs) h h2 h3 h4 h5 h6 h7 hd2 hT q8 q9)
      clear h h4 hsv ho hko hsu hbA hDA hcA hL2 hd2 hl1 hn1 hE hgf e1
      go_wp2_with fail
      go_ret
      rw [E1.out]
      exact ⟨P, rfl, HR.out, hT.mono (fun i _ e => by rw [e]; exact h2), fun i hi => Or.inl hi⟩
    | false =>
      have e1 : cutD D s.data.toList (m : Int) = (0, { fs := putE s.data.toList (u.1.take m, m) D.fs, lost := false, armed := D.armed, left := n1 }) := by
        unfold cutD; rw [hgf]; simp only []; rw [if_neg HNE.out, ← hl1, if_neg (by simp), ← hn1]; rfl
      have E1 := Lib.hid e1
      rw [hE, if_neg (by simp)]
      have p0 : w2.cell? ⟨w1.heap.size, 0, none⟩ = some (.slice ao u.1.length c) := by simp [World.cell?, hL2]
      have p1 : w2.cell? ⟨w1.heap.size, 1, none⟩ = some (.int .i64 (u.2 : Nat)) := by simp [World.cell?, hL2]
      obtain ⟨m0, -⟩ := dcells hd2.1
      have hlenE : es.length ≤ 1000000 := by rw [All2.len h4]; exact hn
      have ho2 : Owns w2 0 (.slice ao u.1.length c) u.1 := ⟨ho.1, ho.2.imp id fun ⟨g', cap, cur, e1, e2, e3, r⟩ => ⟨g', cap, cur, e1, e2, (hT.2.2.2.2 g' (heap_lt e3) (fun e => own_ne_cells ho h.1 (by decide) (by rw [e1, ← e]; rfl))).trans e3, r⟩⟩
      have hsee2 := ho2.sees
      have HWL := Lib.hid hL2
      have HO2 := Lib.hid ho2
      have HR := Lib.hid (And.intro hd2 hT)
      clear h h4 hsv ho hko hsu hbA hDA hcA hL2 hd2 hl1 hn1 hE hgf e1 hT ht2 ho2 d1 d2
      go_wp2_with fail
      refine wp_region_held_drew (S := (fun W => W.cell? ⟨g, 0, none⟩ = some (.map (some b)) ∧ W.cell? ⟨w1.heap.size, 0, none⟩ = some (.slice ao u.1.length c) ∧ W.cell? ⟨w1.heap.size, 1, none⟩ = some (.int .i64 (u.2 : Nat)) ∧ Sees W (.slice ao u.1.length c) u.1)) (by kernel_rfl) ?_ (fun r0 => ?_)
      · exact ⟨m0, p0, p1, hsee2⟩
      refine wpAnyH_take (i := 0) (v := ?_) rfl (by kernel_rfl) (by kernel_rfl) (by kernel_rfl) (fun _ _ _ h => h) (Or.inl ⟨by rfl, ?_⟩) (by assumption) ?_
      rotate_left
      · intro w hSw
        (try dsimp only at hSw)
        go_simp
        first | done | with_reducible rfl
      try simp only [Act.put, List.getElem_toArray, List.getElem_cons_zero, List.setIfInBounds_toArray, List.set_cons_zero, List.set_cons_succ]
      refine wpAnyH_take (i := 1) (v := ?_) rfl (by kernel_rfl) (by kernel_rfl) (by kernel_rfl) (fun _ _ _ h => h) (Or.inl ⟨by rfl, ?_⟩) (by assumption) ?_
      rotate_left
      · intro w hSw
        (try dsimp only at hSw)
        go_simp
        first | done | with_reducible rfl
      try simp only [Act.put, List.getElem_toArray, List.getElem_cons_succ, List.getElem_cons_zero, List.setIfInBounds_toArray, List.set_cons_zero, List.set_cons_succ]
      refine wpAnyH_take (i := 2) (v := ?_) rfl (by kernel_rfl) (by kernel_rfl) (by kernel_rfl) (fun _ _ _ h => h) (Or.inl ⟨by rfl, ?_⟩) (by assumption) ?_
      rotate_left
      · intro w hSw
        (try dsimp only at hSw)
        go_simp
        first | done | with_reducible rfl
      try simp only [Act.put, List.getElem_toArray, List.getElem_cons_succ, List.getElem_cons_zero, List.setIfInBounds_toArray, List.set_cons_zero, List.set_cons_succ]
      refine wpAnyH_take (i := 3) (v := ?_) rfl (by kernel_rfl) (by kernel_rfl) (by kernel_rfl) (fun _ _ _ h => h) (Or.inl ⟨by rfl, ?_⟩) (by assumption) ?_
      rotate_left
      · intro w hSw
        (try dsimp only at hSw)
        go_simp
        first | done | with_reducible rfl
      try simp only [Act.put, List.getElem_toArray, List.getElem_cons_succ, List.getElem_cons_zero, List.setIfInBounds_toArray, List.set_cons_zero, List.set_cons_succ]
      refine wpAnyH_take (i := 4) (v := ?_) rfl (by kernel_rfl) (by kernel_rfl) (by kernel_rfl) (fun _ _ _ h => h) (Or.inl ⟨by rfl, ?_⟩) (by assumption) ?_
      rotate_left
      · intro w hSw
        (try dsimp only at hSw)
        go_simp
        first | done | with_reducible rfl
      try simp only [Act.put, List.getElem_toArray, List.getElem_cons_succ, List.getElem_cons_zero, List.setIfInBounds_toArray, List.set_cons_zero, List.set_cons_succ]
      refine wpAnyH_take (i := 5) (v := ?_) rfl (by kernel_rfl) (by kernel_rfl) (by kernel_rfl) (fun _ _ _ h => h) (Or.inl ⟨by rfl, ?_⟩) (by assumption) ?_
      rotate_left
      · intro w hSw
        (try dsimp only at hSw)
        go_simp
        first | done | with_reducible rfl
      try simp only [Act.put, List.getElem_toArray, List.getElem_cons_succ, List.getElem_cons_zero, List.setIfInBounds_toArray, List.set_cons_zero, List.set_cons_succ]
      refine wpAnyH_take (i := 6) (v := ?_) rfl (by kernel_rfl) (by kernel_rfl) (by kernel_rfl) (fun _ _ _ h => h) (Or.inl ⟨by rfl, ?_⟩) (by assumption) ?_
      rotate_left
      · intro w hSw
        (try dsimp only at hSw)
        go_simp
        first | done | with_reducible rfl
      try simp only [Act.put, List.getElem_toArray, List.getElem_cons_succ, List.getElem_cons_zero, List.setIfInBounds_toArray, List.set_cons_zero, List.set_cons_succ]
      refine wpAnyH_ready (rs := [7]) (by kernel_rfl) (by simp) ?_
      refine AllReadyH.cons rfl (fun K hK => ?_) AllReadyH.nil
      go_simp
      refine (first_any (.slice ao u.1.length c) u.2 m u.1 _ r0.2.2.2 hm ul).mono ?_; rintro e w4 ⟨v4, rfl, ho4, hb4⟩
      obtain ⟨a4, c4, hv4, -⟩ := id ho4.sees
      rw [show (u.1.take m).length = m from by rw [List.length_take]; omega] at hv4
      subst hv4
      have hb4' : Below w2.heap.size w2 w4 := (show Below w2.heap.size w2 w2.drew from ⟨rfl, rfl, rfl, Nat.le_refl _, fun _ _ => rfl⟩).trans hb4
      have hM4 : MapIs w4 b es.length es := (HR.out.1.2.1 b rfl).heap (hb4'.block b (HR.out.1.2.1 b rfl).lt)
      have hkp : ∀ (q : Addr) (x : Value), (w2).cell? q = some x → w4.cell? q = some x := fun q x hq => (hb4'.cell (World.block_lt_of_cell? _ _ hq)).trans hq
      have hs4 : Sees w4 (.slice ao u.1.length c) u.1 := hsee2.keep hb4'
      refine hK.out _ _ ?_ (fun r1 => ?_)
      · exact ⟨hkp _ _ r0.1, hkp _ _ r0.2.1, hkp _ _ r0.2.2.1, hs4⟩
      try simp only [Act.put, List.getElem_toArray, List.getElem_cons_succ, List.getElem_cons_zero, List.setIfInBounds_toArray, List.set_cons_zero, List.set_cons_succ]
      obtain ⟨w5, hrun, hm5, hg5⟩ := hM4.put (by unfold maxLen; omega) hs (.agg #[.slice a4 m c4, .int .i64 (m : Nat)])
      refine wpAnyH_ready (rs := [8]) (by kernel_rfl) (by simp) ?_
      refine AllReadyH.cons rfl (fun K hK => ?_) AllReadyH.nil
      have hD4 := HR.out.1.keep hb4'
      have hkq : ∀ (q : Addr) (x : Value), q.block ≠ b → w4.cell? q = some x → w5.cell? q = some x := fun q x hn hq => (World.cell?_of_block (hg5.block q.block (World.block_lt_of_cell? _ _ hq) (fun e => hn (Option.some.inj e)))).trans hq
      have hL4 : w4.heap[w1.heap.size]? = some (.cells #[.slice ao u.1.length c, .int .i64 (u.2 : Nat)] 124 (0, 0)) := (hb4'.block w1.heap.size (heap_lt HWL.out)).trans HWL.out
      have hs5 : Sees w5 (.slice ao u.1.length c) u.1 := sees_heap hs4 (fun d hd hlt => hg5.block d hlt (fun e => own_ne_map HO2.out (HR.out.1.2.1 b rfl) (hd.trans e)))
      go_simp
      refine hK.out _ _ ?_ (fun r2 => ?_)
      · exact ⟨hkq _ _ ((hD4.2.1 b rfl).ne hD4.1).symm r1.1, hkq _ _ ((hD4.2.1 b rfl).ne hL4).symm r1.2.1, hkq _ _ ((hD4.2.1 b rfl).ne hL4).symm r1.2.2.1, hs5⟩
      try simp only [Act.put, List.getElem_toArray, List.getElem_cons_succ, List.getElem_cons_zero, List.setIfInBounds_toArray, List.set_cons_zero, List.set_cons_succ]
      refine wpAnyH_done (by kernel_rfl) ?_ _
      go_wp2_with fail
      go_ret
      obtain ⟨h, h4, hsv, ho, hko, hsu⟩ := HH.out
      obtain ⟨hd2, hT⟩ := HR.out
      have hT4 : Touch (· = g) w w4 := hT.trans (Touch.of_below (· = g) hb4') (fun _ _ e => e)
      rw [E1.out]
      exact ⟨_, rfl, put_end (su := m) (sv := .slice ao u.1.length c) (w2 := w4) h h2 (h3 b rfl) h4 h5 h6 h7 hsv hD4 hT4 q8 q9 hm5 hg5 (Owns.le ho4 (Nat.zero_le _)) (hko.take m) (by rw [List.length_take]; omega) (fun d hd => Or.inr (Nat.le_trans hT.2.2.2.1 (World.ownsRow.lt ho4 d hd).1))⟩
end
section
open Go.RowKit Go.Maps
theorem DiskAt.lt {w : World} {g : Nat} {P : Nat → Prop} {D : DSt} (h : DiskAt w g P D) {i : Nat} (hi : P i) : i < w.heap.size := by
  obtain ⟨_, _, _, _, _, _, _, _, h7, _⟩ := h
  exact h7 i hi
theorem DiskAt.self {w : World} {g : Nat} {P : Nat → Prop} {D : DSt} (h : DiskAt w g P D) : P g := by
  obtain ⟨_, _, _, h2, _⟩ := h
  exact h2
theorem Step.ge {P P' : Nat → Prop} {a b : World} {n : Nat} (h : Step P P' a b) (hp : ∀ i, P i → n ≤ i) (hn : n ≤ a.heap.size) : (∀ i, P' i → n ≤ i) ∧ Below n a b :=
  ⟨fun i hi => (h.2 i hi).elim (hp i) (fun h' => Nat.le_trans hn h'), h.1.below hn hp⟩
theorem rename_nil (s t : ByteArray) (w : World) : Calls Tryz.prog 122 #[.pointer none, .string s, .string t] w fun e w' => e = .returned (.int .i64 2) ∧ Below w.heap.size w w' := by
  have HF := Lib.hid (find_nil s w)
  unfold zeroF at HF
  go_enter Tryz.func122, Tryz.ntmps122
  go_wp2_with fail
  refine HF.out.mono ?_; rintro e w1 ⟨rfl, hb1⟩
  go_wp2_with fail
  go_ret
  refine ⟨rfl, hb1.trans ?_⟩
  repeat (first | exact Below.refl _ _ | refine Below.setCell ?_ (by simp) _ | refine Below.alloc ?_ (by have := hb1.size; simp; omega) _)
theorem remove_nil (s : ByteArray) (w : World) : Calls Tryz.prog 153 #[.pointer none, .string s] w fun e w' => e = .returned (.int .i64 2) ∧ Below w.heap.size w w' := by
  have HF := Lib.hid (find_nil s w)
  unfold zeroF at HF
  go_enter Tryz.func153, Tryz.ntmps153
  go_wp2_with fail
  refine HF.out.mono ?_; rintro e w1 ⟨rfl, hb1⟩
  go_wp2_with fail
  go_ret
  refine ⟨rfl, hb1.trans ?_⟩
  repeat (first | exact Below.refl _ _ | refine Below.setCell ?_ (by simp) _ | refine Below.alloc ?_ (by have := hb1.size; simp; omega) _)
theorem cut_nil (s : ByteArray) (n : Int) (w : World) : Calls Tryz.prog 101 #[.pointer none, .string s, .int .i64 n] w fun e w' => e = .returned (.int .i64 2) ∧ Below w.heap.size w w' := by
  have HF := Lib.hid (find_nil s w)
  unfold zeroF at HF
  go_enter Tryz.func101, Tryz.ntmps101
  go_wp2_with fail
  refine HF.out.mono ?_; rintro e w1 ⟨rfl, hb1⟩
  go_wp2_with fail
  go_ret
  refine ⟨rfl, hb1.trans ?_⟩
  repeat (first | exact Below.refl _ _ | refine Below.setCell ?_ (by simp) _ | refine Below.alloc ?_ (by have := hb1.size; simp; omega) _)
/-- The name f. -/
def nF : ByteArray := ⟨#[102]⟩
theorem st1 : appD ⟨[], false, false, 0⟩ nF.data.toList [97, 98, 99] = (0, ⟨[([102], ([97, 98, 99], 0))], false, false, 0⟩) := by kernel_rfl
theorem st2 : syncD ⟨[([102], ([97, 98, 99], 0))], false, false, 0⟩ nF.data.toList = (0, ⟨[([102], ([97, 98, 99], 3))], false, false, 0⟩) := by kernel_rfl
theorem st3 : appD ⟨[([102], ([97, 98, 99], 3))], false, false, 0⟩ nF.data.toList [100, 101] = (0, ⟨[([102], ([97, 98, 99, 100, 101], 3))], false, false, 0⟩) := by kernel_rfl
theorem st4 : crashD ⟨[([102], ([97, 98, 99, 100, 101], 3))], false, false, 0⟩ [1] = ⟨[([102], ([97, 98, 99, 100], 4))], false, false, 0⟩ := by kernel_rfl
theorem st5 : readD ⟨[([102], ([97, 98, 99, 100], 4))], false, false, 0⟩ nF.data.toList = ([97, 98, 99, 100], 0) := by kernel_rfl
theorem abcd : strOfNums [97, 98, 99, 100] = ⟨#[97, 98, 99, 100]⟩ := by kernel_rfl
end
end Go.Proofs.YtbbefakmpmniiaaGreatDoor
