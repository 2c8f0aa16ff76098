/- Package view: Of. Made by g_vwof.py. -/
import Derived.Test.YtiifbhiodegipaaGreatDoorVwB
import Derived.Test.YtiifbhiodegipaaGreatDoorNMd
import Derived.Maps.OwnOps
namespace Go.Proofs.YtiifbhiodegipaaGreatDoor
open Go.RowKit Go.Maps
abbrev IT := ByteArray × ByteArray × Int
def encIt (p : IT) : List Value := [.string p.1, .string p.2.1, .int .i64 p.2.2]
abbrev SeesIt (w : World) (v : Value) (L : List IT) : Prop := SeesG 3 encIt w v L
def vw0 : VwS := ⟨[], [], [], [], []⟩
/-- What the first i items come to; none: one is no record, or two have one key. -/
def vwN (tk : ByteArray → ByteArray → VwS → Option VwS) (L : List IT) : Nat → Option VwS
  | 0 => some vw0
  | i + 1 => match vwN tk L i, L[i]? with
    | some s, some p => if (L.take i).any (fun q => decide (q.1 = p.1)) = true then none else tk p.1 p.2.1 s
    | _, _ => none
theorem vwN_none {tk : ByteArray → ByteArray → VwS → Option VwS} {L : List IT} {i j : Nat} (h : vwN tk L i = none) (hj : i ≤ j) : vwN tk L j = none := by
  induction j with
  | zero => obtain rfl : i = 0 := by omega
            exact h
  | succ j ih =>
    rcases Nat.lt_or_ge i (j + 1) with hl | hl
    · rw [vwN, ih (by omega)]
    · obtain rfl : i = j + 1 := by omega
      exact h
abbrev keyL (k : ByteArray) : Lit := .string k.data.toList
def seenE (L : List IT) : List VM.Ent := L.foldl (fun fs p => VM.putE (keyL p.1) (.agg #[]) fs) []
theorem seenE_snoc (L : List IT) (p : IT) : seenE (L ++ [p]) = VM.putE (keyL p.1) (.agg #[]) (seenE L) := by unfold seenE; rw [List.foldl_append]; rfl
theorem keyLit (k : ByteArray) : WideAt.IsKeyLit (keyL k) := trivial
theorem seen_aux (k : ByteArray) : ∀ (L : List IT) (fs : List VM.Ent), (VM.getE (L.foldl (fun fs p => VM.putE (keyL p.1) (.agg #[]) fs) fs) (keyL k)).isSome = (L.any (fun q => decide (q.1 = k)) || (VM.getE fs (keyL k)).isSome)
  | [], fs => by simp
  | q :: L, fs => by
    rw [List.foldl_cons, seen_aux k L, List.any_cons]
    by_cases h : q.1 = k
    · subst h
      rw [VM.get_put (keyLit _)]
      simp
    · have hne : keyL q.1 ≠ keyL k := fun e => h (by
        injection e with e
        exact ByteArray.ext (Array.ext' e))
      rw [VM.get_put_ne (keyLit _) (keyLit _) hne]
      have : decide (q.1 = k) = false := by simp [h]
      rw [this, Bool.false_or]
theorem seen_val (k : ByteArray) : ∀ (L : List IT) (fs : List VM.Ent), (∀ v, VM.getE fs (keyL k) = some v → v = .agg #[]) → ∀ v, VM.getE (L.foldl (fun fs p => VM.putE (keyL p.1) (.agg #[]) fs) fs) (keyL k) = some v → v = .agg #[]
  | [], fs, h, v, hv => h v hv
  | q :: L, fs, h, v, hv => seen_val k L (VM.putE (keyL q.1) (.agg #[]) fs) (fun u hu => by
      by_cases e : q.1 = k
      · subst e
        rw [VM.get_put (keyLit _)] at hu
        exact (Option.some.inj hu).symm
      · have hne : keyL q.1 ≠ keyL k := fun x => e (by
          injection x with x
          exact ByteArray.ext (Array.ext' x))
        rw [VM.get_put_ne (keyLit _) (keyLit _) hne] at hu
        exact h u hu) v hv
theorem seen_is (L : List IT) (k : ByteArray) : (VM.getE (seenE L) (keyL k)).isSome = L.any (fun q => decide (q.1 = k)) := by
  unfold seenE
  rw [seen_aux]
  show (_ || false) = _
  rw [Bool.or_false]
theorem keyedStr : Keyed Tryz.prog TStr := string_keyed Tryz.underlying9
theorem keyStr {s : ByteArray} (hs : s.size ≤ maxLen) : keyOf Tryz.prog TStr (.string s) = some (keyL s) := Go.WideMaps.keyOf_string_mk Tryz.underlying9 hs
abbrev TSeen : TypeId := 92
theorem zeroE (w : World) : (zeroValue 93).run Tryz.prog w = .ok (.agg #[]) w := by kernel_rfl
theorem seen_look {w : World} {b n : Nat} {L : List IT} (h : VM.MapIs TStr w b n (seenE L)) {s : ByteArray} (hs : s.size ≤ maxLen) :
    (Instr.lookup TSeen (.map (some b)) (.string s) true).run Tryz.prog w = .ok (.tuple #[.agg #[], .bool (L.any (fun q => decide (q.1 = s)))]) w := by
  rw [h.look keyedStr Tryz.underlying92 (zeroE w) (keyStr hs) true, seen_is]
  have : (VM.getE (seenE L) (keyL s)).getD (.agg #[]) = .agg #[] := by
    cases hg : VM.getE (seenE L) (keyL s) with
    | none => rfl
    | some v => exact seen_val s L [] (fun v h => by simp [VM.getE] at h) v hg
  rw [this]
  rfl
abbrev zeroVw : Value := .agg #[NS, NS, .map none, .map none, .map none]
def OfPost (w : World) (n : Nat) (o : Option VwS) (e : Ending) (w' : World) : Prop := match o with
  | none => e = .returned (.tuple #[zeroVw, .int .i64 3]) ∧ Below w.heap.size w w'
  | some s => ∃ g p, e = .returned (.tuple #[.agg (vwL p).toArray, .int .i64 0]) ∧ VwIs w' (w.heap.size + 1) g n p s ∧ Below w.heap.size w w'
theorem alO {w : World} {o o' : Obj} {k : Nat} (h : w.heap[k]? = some o') : (w.alloc o).heap[k]? = some o' := (Below.heap_alloc w o k (heap_lt h)).trans h
theorem alN {w : World} {o : Obj} {k : Nat} (h : k = w.heap.size) : (w.alloc o).heap[k]? = some o := by rw [h]; exact heap_alloc_new w o
theorem alloc6 (w : World) (o0 o1 o2 o3 o4 o5 : Obj) : ((((((w.alloc o0).alloc o1).alloc o2).alloc o3).alloc o4).alloc o5).heap[w.heap.size]? = some o0 ∧ ((((((w.alloc o0).alloc o1).alloc o2).alloc o3).alloc o4).alloc o5).heap[w.heap.size + 1]? = some o1 ∧ ((((((w.alloc o0).alloc o1).alloc o2).alloc o3).alloc o4).alloc o5).heap[w.heap.size + 1 + 1]? = some o2 ∧ ((((((w.alloc o0).alloc o1).alloc o2).alloc o3).alloc o4).alloc o5).heap[w.heap.size + 1 + 1 + 1]? = some o3 ∧ ((((((w.alloc o0).alloc o1).alloc o2).alloc o3).alloc o4).alloc o5).heap[w.heap.size + 1 + 1 + 1 + 1]? = some o4 ∧ ((((((w.alloc o0).alloc o1).alloc o2).alloc o3).alloc o4).alloc o5).heap[w.heap.size + 1 + 1 + 1 + 1 + 1]? = some o5 ∧ Below w.heap.size w ((((((w.alloc o0).alloc o1).alloc o2).alloc o3).alloc o4).alloc o5) ∧ ((((((w.alloc o0).alloc o1).alloc o2).alloc o3).alloc o4).alloc o5).heap.size = w.heap.size + 6 := by
  have z1 : (w.alloc o0).heap.size = w.heap.size + 1 := by simp
  have z2 : ((w.alloc o0).alloc o1).heap.size = w.heap.size + 1 + 1 := by simp
  have z3 : (((w.alloc o0).alloc o1).alloc o2).heap.size = w.heap.size + 1 + 1 + 1 := by simp
  have z4 : ((((w.alloc o0).alloc o1).alloc o2).alloc o3).heap.size = w.heap.size + 1 + 1 + 1 + 1 := by simp
  have z5 : (((((w.alloc o0).alloc o1).alloc o2).alloc o3).alloc o4).heap.size = w.heap.size + 1 + 1 + 1 + 1 + 1 := by simp
  exact ⟨alO (alO (alO (alO (alO (alN rfl))))), alO (alO (alO (alO (alN z1.symm)))), alO (alO (alO (alN z2.symm))), alO (alO (alN z3.symm)), alO (alN z4.symm), alN z5.symm, belAlloc (belAlloc (belAlloc (belAlloc (belAlloc (belNew w _) _) _) _) _) _, by simp⟩
theorem mapEmpty {w' : World} {b : Nat} (K : TypeId) (h : w'.heap[b]? = some (.map #[] 0)) : VM.MapIs K w' b 0 [] := by
  have h0 := World.ownsMap_made w' Tryz.prog K VM.Rv
  obtain ⟨es, c, h1, h2⟩ := h0
  obtain ⟨rfl, rfl⟩ : es = #[] ∧ c = 0 := by
    have h4 := (MapKept.heap_alloc w' (.map #[] 0)).1.symm.trans h1
    have h5 : es = #[] ∧ 0 = c := by simpa using h4
    exact ⟨h5.1, h5.2.symm⟩
  exact ⟨#[], 0, h, h2⟩
theorem mk26 (w : World) : (Instr.makeMap 26 none).run Tryz.prog w = .ok (.map (some w.heap.size)) (w.alloc (.map #[] 0)) := by
  have u := Tryz.underlying26
  simp [Instr.makeMap, run_underlying u]
theorem mk27 (w : World) : (Instr.makeMap 27 none).run Tryz.prog w = .ok (.map (some w.heap.size)) (w.alloc (.map #[] 0)) := by
  have u := Tryz.underlying27
  simp [Instr.makeMap, run_underlying u]
theorem mk28 (w : World) : (Instr.makeMap 28 none).run Tryz.prog w = .ok (.map (some w.heap.size)) (w.alloc (.map #[] 0)) := by
  have u := Tryz.underlying28
  simp [Instr.makeMap, run_underlying u]
theorem mk92 (w : World) : (Instr.makeMap 92 none).run Tryz.prog w = .ok (.map (some w.heap.size)) (w.alloc (.map #[] 0)) := by
  have u := Tryz.underlying92
  simp [Instr.makeMap, run_underlying u]
theorem seen_put {w : World} {ops : Array Oper} {rest : List Oper} {o : Oper} {a : Act} {Q : Exit → Act → World → Prop} (hgd : o.guard = none) (m x v : Operand)
    (ho : o.op = Op.mapUpdate TSeen m x v) (b n : Nat) (L : List IT) (hm : a.eval m = .map (some b)) (h : VM.MapIs TStr w b n (seenE L)) (hn : n < maxLen) (s u : ByteArray) (r : Int) (hs : s.size ≤ maxLen) (hx : a.eval x = .string s) (hv : a.eval v = .agg #[])
    (hK : ∀ w', VM.MapIs TStr w' b (n + 1) (seenE (L ++ [(s, u, r)])) → w.grownBy w' (some b) → wpList Tryz.prog ops Q rest (a.put o.dst undef) w') : wpList Tryz.prog ops Q (o :: rest) a w :=
  wpList_mapUpdate_own w hgd m x v TSeen ho TStr 93 keyedStr Tryz.underlying92 VM.Rv b n (VM.datum (seenE L)) hm h hn _ (.agg #[]) _ hx hv (keyStr hs) (.held (.agg #[])) [] rfl
    (fun w' h1 h2 => hK w' (by rw [seenE_snoc]; rw [VM.datum_put] at h1; exact h1) h2)
theorem ofsV {w : World} {a : Addr} {i n : Nat} {v : Value} (hn : n ≠ 0) (h : w.cell? ((a.add i).add n) = some v) : w.cell? { block := (a.add i).block, off := (a.add i).off + n } = some v := by
  have e : ({ block := (a.add i).block, off := (a.add i).off + n } : Addr) = (a.add i).add n := by
    unfold Addr.add
    simp [hn]
  rw [e]
  exact h
set_option maxRecDepth 100000 in
set_option maxHeartbeats 8000000 in
theorem vwOf_any (tk : ByteArray → ByteArray → VwS → Option VwS) (v : Value) (L : List IT) (w : World) (hv : SeesIt w v L) (hE : NM.Env w) (hl : L.length ≤ 1000) (hks : ∀ p ∈ L, p.1.size ≤ 900)
    (HT : Hid (∀ (i : Nat) (q : IT) (s : VwS) (p : VwP) (B g : Nat) (wr : World), L[i]? = some q → vwN tk L i = some s → VwIs wr B g i p s → NM.Env wr → Calls Tryz.prog 28 #[.pointer (some ⟨g, 0, none⟩), itA q.1 q.2.1 q.2.2] wr (TkPost wr B g i p (tk q.1 q.2.1 s)))) :
    Calls Tryz.prog 7 #[v] w (OfPost w L.length (vwN tk L L.length)) := by
  obtain ⟨ao, c, rfl, hlc, hnil, hc⟩ := hv
  have HC := Lib.hid (And.intro hnil (And.intro hc hks))
  have HE := Lib.hid hE
  generalize hR : vwN tk L L.length = R
  have HR := Lib.hid hR
  clear hnil hc hks hE hR
  have m26 := mk26
  have m27 := mk27
  have m28 := mk28
  have m92 := mk92
  go_enter Tryz.func7, Tryz.ntmps7
  go_upto_region 3 with fail
  obtain ⟨W, hW⟩ : ∃ W, W = (((((w.alloc (.cells #[NS, NS, .map none, .map none, .map none] 30)).alloc (.map #[] 0)).alloc (.map #[] 0)).alloc (.map #[] 0)).alloc (.cells #[NS, NS, .map (some (w.heap.size + 1)), .map (some (w.heap.size + 1 + 1)), .map (some (w.heap.size + 1 + 1 + 1))] 30)).alloc (.map #[] 0) := ⟨_, rfl⟩
  obtain ⟨a0, a1, a2, a3, a4, a5, ab, az⟩ := alloc6 w (.cells #[NS, NS, .map none, .map none, .map none] 30) (.map #[] 0) (.map #[] 0) (.map #[] 0) (.cells #[NS, NS, .map (some (w.heap.size + 1)), .map (some (w.heap.size + 1 + 1)), .map (some (w.heap.size + 1 + 1 + 1))] 30) (.map #[] 0)
  rw [← hW] at a0 a1 a2 a3 a4 a5 ab az ⊢
  have hV : VwIs W (w.heap.size + 1) (w.heap.size + 1 + 1 + 1 + 1) 0 ⟨NS, NS, w.heap.size + 1, w.heap.size + 1 + 1, w.heap.size + 1 + 1 + 1, [], []⟩ vw0 := by
    refine ⟨a4, RowG.nil _ _ _ _ _, RowG.nil _ _ _ _ _, rfl, (fun x hx => by cases hx), ⟨0, Nat.le_refl _, mapEmpty _ a1⟩, ⟨0, Nat.le_refl _, mapEmpty _ a2, trivial⟩, ⟨0, Nat.le_refl _, mapEmpty _ a3⟩, Nat.le_refl _, Nat.le_refl _, ⟨by show _ ≠ w.heap.size + 1; omega, by show _ ≠ w.heap.size + 1 + 1; omega, by show _ ≠ w.heap.size + 1 + 1 + 1; omega, by show w.heap.size + 1 ≠ w.heap.size + 1 + 1; omega, by show w.heap.size + 1 ≠ w.heap.size + 1 + 1 + 1; omega, by show w.heap.size + 1 + 1 ≠ w.heap.size + 1 + 1 + 1; omega, fun d hd => (by cases hd), fun d hd => (by cases hd)⟩, ?_, by omega⟩
    rintro d (rfl | e | e | e | e | e)
    · omega
    · have e : d = w.heap.size + 1 := e
      omega
    · have e : d = w.heap.size + 1 + 1 := e
      omega
    · have e : d = w.heap.size + 1 + 1 + 1 := e
      omega
    · cases e
    · cases e
  have hS0 : VM.MapIs TStr W (w.heap.size + 1 + 1 + 1 + 1 + 1) 0 (seenE (L.take 0)) := mapEmpty _ a5
  have hni : ¬ (⟨NS, NS, w.heap.size + 1, w.heap.size + 1 + 1, w.heap.size + 1 + 1 + 1, [], []⟩ : VwP).In (w.heap.size + 1 + 1 + 1 + 1) (w.heap.size + 1 + 1 + 1 + 1 + 1) := by
    rintro (e | e | e | e | e | e)
    · omega
    · have e : w.heap.size + 1 + 1 + 1 + 1 + 1 = w.heap.size + 1 := e
      omega
    · have e : w.heap.size + 1 + 1 + 1 + 1 + 1 = w.heap.size + 1 + 1 := e
      omega
    · have e : w.heap.size + 1 + 1 + 1 + 1 + 1 = w.heap.size + 1 + 1 + 1 := e
      omega
    · cases e
    · cases e
  have H0 := Lib.hid (And.intro hV (And.intro hS0 (And.intro a0 (And.intro ab (And.intro az hni)))))
  clear hW a0 a1 a2 a3 a4 a5 ab az hV hS0 m26 m27 m28 m92 hni
  generalize hg : w.heap.size + 1 + 1 + 1 + 1 = g at *
  have HG := Lib.hid hg
  clear hg
  go_wp2_with fail
  go_loopw [17] (fun j wr => ∃ (i : Nat) (s : VwS) (p : VwP), i ≤ L.length ∧ j = .int .i64 i ∧ Hid (vwN tk L i = some s ∧ VwIs wr (w.heap.size + 1) g i p s ∧ ¬ p.In g (g + 1) ∧ VM.MapIs TStr wr (g + 1) i (seenE (L.take i)) ∧ wr.heap[w.heap.size]? = some (.cells #[NS, NS, .map none, .map none, .map none] 30 (0, 0)) ∧ Below w.heap.size w wr ∧ g + 1 < wr.heap.size)) (fun j _ => L.length - (intOf j).toNat)
  case atStart => exact ⟨0, vw0, _, Nat.zero_le _, rfl, Lib.hid ⟨rfl, H0.out.1, H0.out.2.2.2.2.2, H0.out.2.1, H0.out.2.2.1, H0.out.2.2.2.1, by have := H0.out.2.2.2.2.1; have := HG.out; omega⟩⟩
  case round =>
    obtain ⟨i, s, p, hi, rfl, HI⟩ := hrel
    by_cases hlt : i < L.length
    · obtain ⟨a, rfl⟩ : ∃ a, ao = some a := by
        cases ao with
        | none => rw [HC.out.1 rfl] at hlt; simp at hlt
        | some a => exact ⟨a, rfl⟩
      obtain ⟨q, hget⟩ : ∃ q, L[i]? = some q := ⟨_, List.getElem?_eq_getElem hlt⟩
      have qc := HC.out.2.1 a rfl i q hget
      obtain ⟨k, v, r⟩ := q
      have q0 : wr.cell? (a.add (i * 3)) = some (.string k) := bcell HI.out.2.2.2.2.2.1 (qc 0 (.string k) rfl)
      have q1 : wr.cell? { block := (a.add (i * 3)).block, off := (a.add (i * 3)).off + 1 } = some (.string v) := ofsV (by omega) (bcell HI.out.2.2.2.2.2.1 (qc 1 (.string v) rfl))
      have q2 : wr.cell? { block := (a.add (i * 3)).block, off := (a.add (i * 3)).off + 2 } = some (.int .i64 r) := ofsV (by omega) (bcell HI.out.2.2.2.2.2.1 (qc 2 (.int .i64 r) rfl))
      have b0 : (0 : Int) ≤ (i : Int) := by omega
      have b1 : (i : Int) < (L.length : Int) := by omega
      have hks := HC.out.2.2 (k, v, r) (List.mem_of_getElem? hget)
      have htk : L.take (i + 1) = L.take i ++ [(k, v, r)] := by rw [List.take_add_one, hget]; rfl
      have HQ := Lib.hid (And.intro hget (And.intro htk (And.intro hks hlt)))
      obtain ⟨wx, hwx⟩ : ∃ wx, wx = wr.alloc (itO k v r) := ⟨_, rfl⟩
      have hbx := belNew wr (itO k v r)
      have hI := It3.new wr k v r
      have hlk := seen_look (HI.out.2.2.2.1.below hbx) (s := k) (by have h : k.size ≤ 900 := hks; unfold maxLen; omega)
      rw [← hwx] at hbx hI hlk
      generalize hT : (L.take i).any (fun q => decide (q.1 = k)) = T at *
      have HT' := Lib.hid hT
      clear qc hks htk hget hlt hT
      go_upto_region 6 with fail
      change Code.wp _ _ _ _ (wr.alloc (itO k v r))
      rw [← hwx]
      have HWX := Lib.hid hwx
      obtain ⟨x0, x1, x2, x3⟩ := id hI
      have HBX := Lib.hid (And.intro hbx hI)
      clear hwx q0 q1 q2 hbx hI
      cases T with
      | true =>
        have hRn : R = none := by
          rw [← HR.out]
          refine vwN_none (i := i + 1) ?_ (by have := HQ.out.2.2.2; omega)
          rw [vwN, HI.out.1, HQ.out.1]
          simp only []
          rw [HT'.out, if_pos rfl]
        subst hRn
        have hz := ((belNew wx (.cells #[] 93)).block _ (Nat.lt_of_lt_of_le (heap_lt HI.out.2.2.2.2.1) HBX.out.1.size)).trans ((HBX.out.1.block _ (heap_lt HI.out.2.2.2.2.1)).trans HI.out.2.2.2.2.1)
        have hbb := (HI.out.2.2.2.2.2.1.trans (HBX.out.1.mono HI.out.2.2.2.2.2.1.size)).trans ((belNew wx (.cells #[] 93)).mono (Nat.le_trans HI.out.2.2.2.2.2.1.size HBX.out.1.size))
        go_upto_region 8 with fail
        obtain ⟨wy, hwy⟩ : ∃ wy, wy = wx.alloc (.cells #[] 93) := ⟨_, rfl⟩
        rw [← hwy] at hz hbb ⊢
        obtain ⟨y0, y1, y2, y3, y4⟩ := vcells5 hz
        have f0 := vfroz5 hz 0
        have f1 := vfroz5 hz 1
        have f2 := vfroz5 hz 2
        have f3 := vfroz5 hz 3
        have f4 := vfroz5 hz 4
        have HZ := Lib.hid (And.intro (vset5 hz NS NS (.map none) (.map none) (.map none)) (hbb.trans ((vtch5 wy w.heap.size NS NS (.map none) (.map none) (.map none)).below (B := w.heap.size) hbb.size (fun i _ e => by have e : i = w.heap.size := e; omega))))
        clear hwy hz hbb x0 x1 x2 x3 hlk
        go_wp2_with fail
        have hE := HZ.out.1
        refine bodyPost_ret (v := .tuple #[zeroVw, .int .i64 3]) (by simp [results, Tryz.results7, go_sem, World.cell?, hE]) rfl ⟨rfl, HZ.out.2⟩
      | false =>
        have hz := ((belNew wx (.cells #[] 93)).block _ (Nat.lt_of_lt_of_le (heap_lt HI.out.2.2.2.2.1) HBX.out.1.size)).trans ((HBX.out.1.block _ (heap_lt HI.out.2.2.2.2.1)).trans HI.out.2.2.2.2.1)
        have hby := bel HBX.out.1 (belNew wx (.cells #[] 93))
        have hbb := HI.out.2.2.2.2.2.1.trans (hby.mono HI.out.2.2.2.2.2.1.size)
        have hI := HBX.out.2.keep (belNew wx (.cells #[] 93))
        have hV := HI.out.2.1.below hby
        have hM := HI.out.2.2.2.1.below hby
        go_upto_region 7 with fail
        obtain ⟨wy, hwy⟩ : ∃ wy, wy = wx.alloc (.cells #[] 93) := ⟨_, rfl⟩
        rw [← hwy] at hz hbb hI hV hM hby ⊢
        obtain ⟨y0, y1, y2, y3⟩ := id hI
        have HTK := HT.out i (k, v, r) s p (w.heap.size + 1) g wy HQ.out.1 HI.out.1 hV (HE.out.below hbb)
        have HY := Lib.hid (And.intro hz (And.intro hbb (And.intro hI (And.intro hV (And.intro hM hby)))))
        have hnx : vwN tk L (i + 1) = tk k v s := by
          rw [vwN, HI.out.1, HQ.out.1]
          simp only []
          rw [HT'.out, if_neg (by simp)]
        have HNX := Lib.hid hnx
        clear hwy hz hbb hI hV hM hby x0 x1 x2 x3 hlk hnx
        generalize tk k v s = o at *
        cases o with
        | none =>
          simp only [TkPost] at HTK
          have HTK := Lib.hid HTK
          have hRn : R = none := by
            rw [← HR.out]
            exact vwN_none HNX.out (by have := HQ.out.2.2.2; omega)
          subst hRn
          go_wp2_with fail
          refine HTK.out.mono ?_; rintro e w2 ⟨rfl, hb2⟩
          go_upto_region 8 with fail
          have hz := (hb2.block _ (heap_lt HY.out.1)).trans HY.out.1
          have hbb := HY.out.2.1.trans (hb2.mono HY.out.2.1.size)
          clear y0 y1 y2 y3
          obtain ⟨y0, y1, y2, y3, y4⟩ := vcells5 hz
          have f0 := vfroz5 hz 0
          have f1 := vfroz5 hz 1
          have f2 := vfroz5 hz 2
          have f3 := vfroz5 hz 3
          have f4 := vfroz5 hz 4
          have HZ := Lib.hid (And.intro (vset5 hz NS NS (.map none) (.map none) (.map none)) (hbb.trans ((vtch5 w2 w.heap.size NS NS (.map none) (.map none) (.map none)).below (B := w.heap.size) hbb.size (fun i _ e => by have e : i = w.heap.size := e; omega))))
          clear hz hbb hb2
          go_wp2_with fail
          have hE := HZ.out.1
          refine bodyPost_ret (v := .tuple #[zeroVw, .int .i64 3]) (by simp [results, Tryz.results7, go_sem, World.cell?, hE]) rfl ⟨rfl, HZ.out.2⟩
        | some s2 =>
          simp only [TkPost] at HTK
          have HTK := Lib.hid HTK
          go_wp2_with fail
          refine HTK.out.mono ?_; rintro e w2 ⟨rfl, p2, hV2, ht2, hi2⟩
          go_upto_region 9 with fail
          have hB2 : Below (w.heap.size + 1) wy w2 := ht2.below (by have := heap_lt HY.out.2.2.2.1.blk; have := HG.out; omega) (fun d _ hd => (HY.out.2.2.2.1.bd d hd).1)
          have hz2 := (hB2.block w.heap.size (by omega)).trans HY.out.1
          have hbb2 := HY.out.2.1.trans (hB2.mono (by omega))
          have hI2 : It3 wr.heap.size k v r w2 := by
            have hI := HY.out.2.2.1
            have hbk := ht2.block wr.heap.size hI.2.2.2 (fun hd => by have := (HI.out.2.1.bd _ hd).2; omega)
            refine ⟨?_, ?_, ?_, Nat.lt_of_lt_of_le hI.2.2.2 ht2.size⟩
            · exact (World.cell?_of_block hbk).trans hI.1
            · exact (World.cell?_of_block hbk).trans hI.2.1
            · exact (World.cell?_of_block hbk).trans hI.2.2.1
          have hM2 : VM.MapIs TStr w2 (g + 1) i (seenE (L.take i)) := HY.out.2.2.2.2.1.heap (ht2.block _ HY.out.2.2.2.2.1.lt HI.out.2.2.1)
          clear y0 y1 y2 y3
          obtain ⟨y0, y1, y2, y3⟩ := id hI2
          have hks : k.size ≤ maxLen := by have h : k.size ≤ 900 := HQ.out.2.2.1; unfold maxLen; omega
          have hni2 : ¬ p2.In g (g + 1) := fun hd => (hi2 _ hd).elim HI.out.2.2.1 (fun e => by have := HY.out.2.2.2.2.1.lt; omega)
          have H2 := Lib.hid (And.intro hV2 (And.intro hz2 (And.intro hbb2 (And.intro hni2 (And.intro hks hM2)))))
          clear hV2 ht2 hi2 hB2 hz2 hbb2 hI2 hM2 hks hni2
          go_wp2_with (first
            | (at_mapUpdate; refine seen_put rfl (.tmp 35) (.tmp 37) (.tmp 38) rfl (g + 1) i (L.take i) rfl H2.out.2.2.2.2.2 (by have := HQ.out.2.2.2; unfold maxLen; omega) k v r H2.out.2.2.2.2.1 rfl rfl ?_; intro w5 hm5 hg5; have HM5 := Lib.hid hm5; have HG5 := Lib.hid hg5; clear hm5 hg5)
            | go_in)
          go_roundw
          case rel =>
            refine ⟨i + 1, s2, p2, by have := HQ.out.2.2.2; omega, by go_num, Lib.hid ⟨HNX.out, ?_, H2.out.2.2.2.1, ?_, ?_, ?_, ?_⟩⟩
            · have h1 : Tch (· = g + 1) w2 w5 := Tch.of_grown HG5.out (fun k hk => Or.inl (Option.some.inj hk).symm)
              exact H2.out.1.next h1 H2.out.2.2.2.1
            · rw [HQ.out.2.1]; exact HM5.out
            · exact (HG5.out.block _ (heap_lt H2.out.2.1) (fun e => by have := Option.some.inj e; have := HG.out; omega)).trans H2.out.2.1
            · exact H2.out.2.2.1.trans (Tch.below (P := (· = g + 1)) (Tch.of_grown HG5.out (fun k hk => Or.inl (Option.some.inj hk).symm)) H2.out.2.2.1.size (fun i _ e => by have e : i = g + 1 := e; have := HG.out; omega))
            · have := H2.out.2.2.2.2.2.lt; have := HG5.out.size; omega
          case measure => have := HQ.out.2.2.2; simp [intOf]; omega
    · obtain rfl : i = L.length := by omega
      have b1 : ¬ ((L.length : Int) < (L.length : Int)) := by omega
      have hRs : R = some s := by rw [← HR.out]; exact HI.out.1
      subst hRs
      have hz := HI.out.2.2.2.2.1
      obtain ⟨e0, e1, e2, e3, e4⟩ := vcells HI.out.2.1.blk
      obtain ⟨y0, y1, y2, y3, y4⟩ := vcells5 hz
      have f0 := vfroz5 hz 0
      have f1 := vfroz5 hz 1
      have f2 := vfroz5 hz 2
      have f3 := vfroz5 hz 3
      have f4 := vfroz5 hz 4
      have hsl1 := HI.out.2.1.pools.slice
      have hsl2 := HI.out.2.1.blks.slice
      obtain ⟨pv, bv, ma, mh, mn, X, HH⟩ := p
      obtain ⟨po, pc, rfl⟩ : ∃ po pc, pv = .slice po s.pools.length pc := hsl1
      obtain ⟨bo, bc, rfl⟩ : ∃ bo bc, bv = .slice bo X.length bc := hsl2
      have hV := HI.out.2.1.tch (vtch5 wr w.heap.size (.slice po s.pools.length pc) (.slice bo X.length bc) (.map (some ma)) (.map (some mh)) (.map (some mn))) (fun d hd e => by have e : d = w.heap.size := e; omega)
      have HZ := Lib.hid (And.intro (vset5 hz (.slice po s.pools.length pc) (.slice bo X.length bc) (.map (some ma)) (.map (some mh)) (.map (some mn))) (And.intro (HI.out.2.2.2.2.2.1.trans ((vtch5 wr w.heap.size (.slice po s.pools.length pc) (.slice bo X.length bc) (.map (some ma)) (.map (some mh)) (.map (some mn))).below (B := w.heap.size) HI.out.2.2.2.2.2.1.size (fun i _ e => by have e : i = w.heap.size := e; omega))) hV))
      clear hz hV
      go_wp2_with fail
      have hE := HZ.out.1
      refine bodyPost_ret (v := .tuple #[.agg #[.slice po s.pools.length pc, .slice bo X.length bc, .map (some ma), .map (some mh), .map (some mn)], .int .i64 0]) (by simp [results, Tryz.results7, go_sem, World.cell?, hE]) rfl ⟨g, _, rfl, HZ.out.2.2, HZ.out.2.1⟩
end Go.Proofs.YtiifbhiodegipaaGreatDoor
namespace Go.Proofs.YtiifbhiodegipaaGreatDoor
open Go.RowKit Go.Maps
theorem map_put {w : World} {ops : Array Oper} {rest : List Oper} {o : Oper} {a : Act} {Q : Exit → Act → World → Prop} (T K E : TypeId) (hKd : Keyed Tryz.prog K) (ht : Tryz.prog.underlying T = some (.map K E)) (hgd : o.guard = none) (m x v : Operand)
    (ho : o.op = Op.mapUpdate T m x v) (b n : Nat) (fs : List VM.Ent) (hm : a.eval m = .map (some b)) (h : VM.MapIs K w b n fs) (hn : n < maxLen) (xv ev : Value) (kl : Lit) (hx : a.eval x = xv) (hv : a.eval v = ev) (hk : keyOf Tryz.prog K xv = some kl)
    (hK : ∀ w', VM.MapIs K w' b (n + 1) (VM.putE kl ev fs) → w.grownBy w' (some b) → wpList Tryz.prog ops Q rest (a.put o.dst undef) w') : wpList Tryz.prog ops Q (o :: rest) a w :=
  wpList_mapUpdate_own w hgd m x v T ho K E hKd ht VM.Rv b n (VM.datum fs) hm h hn xv ev kl hx hv hk (.held ev) [] rfl
    (fun w' h1 h2 => hK w' (by rw [VM.datum_put] at h1; exact h1) h2)
theorem VwIs.putA {w w' : World} {B g c n : Nat} {p : VwP} {s : VwS} {fs : List VM.Ent} (h : VwIs w B g c p s) (hm : VM.MapIs TAff w' p.ma n fs) (hn : n ≤ c + 1) (ht : w.grownBy w' (some p.ma)) : VwOut w B g c p w' { s with affs := fs } := by
  obtain ⟨h1, h2, h3, h4, h5, ⟨na, ha, hA⟩, ⟨nh, hh, hH⟩, ⟨nn, hnn, hN⟩, h9, h10, h11, h12, h13⟩ := h
  have ki : ∀ d, p.In g d → d ≠ p.ma → w'.heap[d]? = w.heap[d]? := fun d hd hne => ht.block d (h12 d hd).2 (fun e => hne (Option.some.inj e))
  have i2 : p.In g p.ma := Or.inr (Or.inl rfl)
  have i3 : p.In g p.mh := Or.inr (Or.inr (Or.inl rfl))
  have i4 : p.In g p.mn := Or.inr (Or.inr (Or.inr (Or.inl rfl)))
  refine ⟨p, ⟨(ki g (Or.inl rfl) h11.ga).trans h1, h2.keep (fun d hd _ => ki d (Or.inr (Or.inr (Or.inr (Or.inr (Or.inl hd))))) (h11.pv d hd).2.1), h3.keep (fun d hd _ => ki d (Or.inr (Or.inr (Or.inr (Or.inr (Or.inr hd))))) (h11.bv d hd).2.1), h4, fun x hx => (h5 x hx).keep ht.size (fun d hl hni => ht.block d hl (fun e => hni ((Option.some.inj e) ▸ i2))), ⟨n, hn, hm⟩, ⟨nh, by omega, hH.1.heap (ki _ i3 h11.ah.symm), hH.2.keep ht.size (fun d _ hl hni => ht.block d hl (fun e => hni ((Option.some.inj e) ▸ i2)))⟩, ⟨nn, by omega, hN.heap (ki _ i4 h11.an.symm)⟩, by show s.pools.length ≤ c + 1; omega, by omega, h11, fun d hd => ⟨(h12 d hd).1, Nat.lt_of_lt_of_le (h12 d hd).2 ht.size⟩, by have := ht.size; omega⟩, Tch.of_grown ht (fun k hk => Or.inl ((Option.some.inj hk) ▸ i2)), fun d hd => Or.inl hd⟩
theorem VwIs.putH {w w' : World} {B g c n : Nat} {p : VwP} {s : VwS} {k : Lit} {v : Value} {L : List (Int × Int)} (h : VwIs w B g c p s) (hm : VM.MapIs TStr w' p.mh n (VM.putE k v p.H)) (hv : HOk w (g + 2) (p.In g) v L) (hn : n ≤ c + 1) (ht : w.grownBy w' (some p.mh)) : VwOut w B g c p w' { s with hans := VM.putE k L s.hans } := by
  obtain ⟨h1, h2, h3, h4, h5, ⟨na, ha, hA⟩, ⟨nh, hh, hH⟩, ⟨nn, hnn, hN⟩, h9, h10, h11, h12, h13⟩ := h
  have ki : ∀ d, p.In g d → d ≠ p.mh → w'.heap[d]? = w.heap[d]? := fun d hd hne => ht.block d (h12 d hd).2 (fun e => hne (Option.some.inj e))
  have i2 : p.In g p.ma := Or.inr (Or.inl rfl)
  have i3 : p.In g p.mh := Or.inr (Or.inr (Or.inl rfl))
  have i4 : p.In g p.mn := Or.inr (Or.inr (Or.inr (Or.inl rfl)))
  refine ⟨{ p with H := VM.putE k v p.H }, ⟨(ki g (Or.inl rfl) h11.gh).trans h1, h2.keep (fun d hd _ => ki d (Or.inr (Or.inr (Or.inr (Or.inr (Or.inl hd))))) (h11.pv d hd).2.2.1), h3.keep (fun d hd _ => ki d (Or.inr (Or.inr (Or.inr (Or.inr (Or.inr hd))))) (h11.bv d hd).2.2.1), h4, fun x hx => (h5 x hx).keep ht.size (fun d hl hni => ht.block d hl (fun e => hni ((Option.some.inj e) ▸ i3))), ⟨na, by omega, hA.heap (ki _ i2 h11.ah)⟩, ⟨n, hn, hm, (hH.2.put hv k).keep ht.size (fun d _ hl hni => ht.block d hl (fun e => hni ((Option.some.inj e) ▸ i3)))⟩, ⟨nn, by omega, hN.heap (ki _ i4 h11.hn.symm)⟩, by show s.pools.length ≤ c + 1; omega, by show p.X.length ≤ c + 1; omega, ⟨h11.ga, h11.gh, h11.gn, h11.ah, h11.an, h11.hn, h11.pv, h11.bv⟩, fun d hd => ⟨(h12 d hd).1, Nat.lt_of_lt_of_le (h12 d hd).2 ht.size⟩, by have := ht.size; omega⟩, Tch.of_grown ht (fun k hk => Or.inl ((Option.some.inj hk) ▸ i3)), fun d hd => Or.inl hd⟩
theorem VwIs.putN {w w' : World} {B g c n : Nat} {p : VwP} {s : VwS} {fs : List VM.Ent} (h : VwIs w B g c p s) (hm : VM.MapIs TStr w' p.mn n fs) (hn : n ≤ c + 1) (ht : w.grownBy w' (some p.mn)) : VwOut w B g c p w' { s with nods := fs } := by
  obtain ⟨h1, h2, h3, h4, h5, ⟨na, ha, hA⟩, ⟨nh, hh, hH⟩, ⟨nn, hnn, hN⟩, h9, h10, h11, h12, h13⟩ := h
  have ki : ∀ d, p.In g d → d ≠ p.mn → w'.heap[d]? = w.heap[d]? := fun d hd hne => ht.block d (h12 d hd).2 (fun e => hne (Option.some.inj e))
  have i2 : p.In g p.ma := Or.inr (Or.inl rfl)
  have i3 : p.In g p.mh := Or.inr (Or.inr (Or.inl rfl))
  have i4 : p.In g p.mn := Or.inr (Or.inr (Or.inr (Or.inl rfl)))
  refine ⟨p, ⟨(ki g (Or.inl rfl) h11.gn).trans h1, h2.keep (fun d hd _ => ki d (Or.inr (Or.inr (Or.inr (Or.inr (Or.inl hd))))) (h11.pv d hd).2.2.2.1), h3.keep (fun d hd _ => ki d (Or.inr (Or.inr (Or.inr (Or.inr (Or.inr hd))))) (h11.bv d hd).2.2.2), h4, fun x hx => (h5 x hx).keep ht.size (fun d hl hni => ht.block d hl (fun e => hni ((Option.some.inj e) ▸ i4))), ⟨na, by omega, hA.heap (ki _ i2 h11.an)⟩, ⟨nh, by omega, hH.1.heap (ki _ i3 h11.hn), hH.2.keep ht.size (fun d _ hl hni => ht.block d hl (fun e => hni ((Option.some.inj e) ▸ i4)))⟩, ⟨n, hn, hm⟩, by show s.pools.length ≤ c + 1; omega, by omega, h11, fun d hd => ⟨(h12 d hd).1, Nat.lt_of_lt_of_le (h12 d hd).2 ht.size⟩, by have := ht.size; omega⟩, Tch.of_grown ht (fun k hk => Or.inl ((Option.some.inj hk) ▸ i4)), fun d hd => Or.inl hd⟩
/-- A key of affinities, as the claims tell it. -/
def keyF (n : ByteArray) (a : Int) : List UInt8 := keyBytes [.string n.data.toList, .int .u32 a]
abbrev affKV (n : ByteArray) (a : Int) : Value := .agg #[.string n, .int .u32 a]
theorem wideAf : (match Tryz.prog.underlying TAff with | some (.array _ _) | some (.struct _) => true | _ => false) = true := by rw [Tryz.underlying98]
theorem rowAf : (TAff : TypeId) < Tryz.prog.types.size := of_decide_eq_true (by kernel_rfl)
set_option maxRecDepth 100000 in
theorem klawAf : WideMaps.KeyLaw Tryz.prog TAff := deep_law_laid (by kernel_rfl) (m := 2) (by omega) rowAf (by kernel_rfl) wideAf
theorem keyedAf : Keyed Tryz.prog TAff := Keyed.of_law klawAf
theorem keyAf {n : ByteArray} {a : Int} (h1 : n.size ≤ maxLen) (h2 : (Lit.int .u32 a).wf = true) : keyOf Tryz.prog TAff (affKV n a) = some (.string (keyF n a)) := by
  have hk : Tryz.prog.keyType TAff = true := by kernel_rfl
  have hf : (affKV n a).formed Tryz.prog TAff = true := by
    simp [Value.formed, Tryz.underlying98]
    kernel_rfl
  obtain ⟨m, hm⟩ : ∃ m, Tryz.prog.types.size = m + 1 := Nat.exists_eq_succ_of_ne_zero (Nat.ne_of_gt (Nat.lt_of_le_of_lt (Nat.zero_le _) rowAf))
  unfold keyOf
  rw [Tryz.underlying98, hm]
  simp only [hk, hf, Bool.and_self, if_true]
  have c : Tryz.prog.cellsOf TAff = 2 := by kernel_rfl
  have c9 : Tryz.prog.cellsOf 9 = 1 := by kernel_rfl
  have c3 : Tryz.prog.cellsOf 41 = 1 := by kernel_rfl
  simp [Program.keyLits, Tryz.underlying98, Tryz.underlying9, Tryz.underlying41, c, c9, c3, h1, h2, Value.cells, keyF]
end Go.Proofs.YtiifbhiodegipaaGreatDoor
