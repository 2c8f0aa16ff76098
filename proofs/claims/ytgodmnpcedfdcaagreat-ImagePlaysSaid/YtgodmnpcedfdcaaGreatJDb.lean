/- Joined: BdD BdE BdF BdG. -/
import Derived.Test.YtgodmnpcedfdcaaGreatJDa
import Derived.Test.YtgodmnpcedfdcaaGreatJBrS
namespace Go.Proofs.YtgodmnpcedfdcaaGreat
section
open Go.RowKit
theorem infoD : (Tryz.prog.info? 35).map (·.size) = some 5 := by kernel_rfl
abbrev docL (y : Int) (s : ByteArray) (v1 v2 v3 : Value) : List Value := [.int .u32 y, .string s, v1, v2, v3]
section
variable {w : World} {g : Nat} {y y0 : Int} {s s0 : ByteArray} {v1 v2 v3 u1 u2 u3 : Value}
theorem DocAt.whole (h : DocAt w g y s v1 v2 v3) : w.rangeAt g 0 (docL y s v1 v2 v3) := fun j v hv => by
  have h' : w.heap[g]? = some (.cells #[.int .u32 y, .string s, v1, v2, v3] TD (0, 0)) := h
  rw [Nat.zero_add]
  have e : (#[Value.int .u32 y, .string s, v1, v2, v3] : Array Value)[j]? = some v := by rw [← hv]; exact List.getElem?_toArray ..
  simp only [World.cell?, h']
  exact e
theorem thereD (h : DocAt w g y s v1 v2 v3) : w.there g 0 5 := fun j hj => by
  have h' : w.heap[g]? = some (.cells #[.int .u32 y, .string s, v1, v2, v3] TD (0, 0)) := h
  constructor
  · simp only [World.cell?, h']
    rw [Array.getElem?_eq_getElem (show 0 + j < (#[Value.int .u32 y, .string s, v1, v2, v3] : Array Value).size by simp; omega)]; rfl
  · simp [World.frozen?, h']
theorem setD (h : DocAt w g y0 s0 u1 u2 u3) : DocAt (w.setCells g 0 (docL y s v1 v2 v3)) g y s v1 v2 v3 ∧ w.grownBy (w.setCells g 0 (docL y s v1 v2 v3)) (some g) := by
  obtain ⟨cur', h1, h2, h3, h4⟩ := setCells_row g TD (docL y s v1 v2 v3) 0 w _ h (by simp)
  refine ⟨?_, h4⟩
  have e : cur' = (docL y s v1 v2 v3).toArray := by
    apply Array.toList_inj.1
    have h2 : cur'.size = 5 := h2
    rw [show (0 : Nat) + (docL y s v1 v2 v3).length = 5 from rfl, List.take_zero, List.nil_append, List.take_of_length_le (by rw [Array.length_toList, h2]; exact Nat.le_refl _)] at h3
    exact h3
  rw [e] at h1
  exact h1
theorem one_doc (h1 : v1.oneCell' = true) (h2 : v2.oneCell' = true) (h3 : v3.oneCell' = true) : ∀ v ∈ docL y s v1 v2 v3, v.oneCell' = true := by
  intro v hv
  simp only [docL, List.mem_cons, List.not_mem_nil, or_false] at hv
  rcases hv with rfl | rfl | rfl | rfl | rfl
  · rfl
  · rfl
  · exact h1
  · exact h2
  · exact h3
section
variable {ops : Array Oper} {rest : List Oper} {o : Oper} {a : Act} {Q : Exit → Act → World → Prop} {K : Act → World → Prop}
theorem wpStD (hgd : o.guard = none) (x z : Operand) (ho : o.op = .store TD x z) (hx : a.eval x = .pointer (some ⟨g, 0, none⟩)) (hy : a.eval z = docV y s v1 v2 v3)
    (h : DocAt w g y0 s0 u1 u2 u3) (h1 : v1.oneCell' = true) (h2 : v2.oneCell' = true) (h3 : v3.oneCell' = true)
    (hK : ∀ w', DocAt w' g y s v1 v2 v3 → w.grownBy w' (some g) → wpList Tryz.prog ops Q rest (a.put o.dst undef) w') : wpList Tryz.prog ops Q (o :: rest) a w := by
  refine wpList_store_mid hgd TD x z ho g 0 (docL y s v1 v2 v3).toArray hx hy (thereD h) infoD (all_oneCell_toArray (one_doc h1 h2 h3)) ?_
  obtain ⟨k1, k2⟩ := setD (y := y) (s := s) (v1 := v1) (v2 := v2) (v3 := v3) h
  exact hK _ k1 k2
theorem wpStDK (x z : Operand) (ho : o.op = .store TD x z) (hx : a.eval x = .pointer (some ⟨g, 0, none⟩)) (hy : a.eval z = docV y s v1 v2 v3)
    (h : DocAt w g y0 s0 u1 u2 u3) (h1 : v1.oneCell' = true) (h2 : v2.oneCell' = true) (h3 : v3.oneCell' = true)
    (hK : ∀ w', DocAt w' g y s v1 v2 v3 → w.grownBy w' (some g) → K (a.put o.dst undef) w') : o.wp Tryz.prog a w K Q := by
  refine wp_store_mid TD x z ho g 0 (docL y s v1 v2 v3).toArray hx hy (thereD h) infoD (all_oneCell_toArray (one_doc h1 h2 h3)) ?_
  obtain ⟨k1, k2⟩ := setD (y := y) (s := s) (v1 := v1) (v2 := v2) (v3 := v3) h
  exact hK _ k1 k2
theorem wpLdD (hgd : o.guard = none) (x : Operand) (ho : o.op = .load TD x) (hx : a.eval x = .pointer (some ⟨g, 0, none⟩)) (h : DocAt w g y s v1 v2 v3)
    (hK : wpList Tryz.prog ops Q rest (a.put o.dst (docV y s v1 v2 v3)) w) : wpList Tryz.prog ops Q (o :: rest) a w :=
  wpList_load_mid hgd _ x ho g 0 hx _ _ h.whole Tryz.underlying35 rfl infoD hK
end
end
/-- The document's block, its lists the call's own. -/
structure DocOwn (w w' : World) (b : BlkS) (v1 v2 v3 : Value) : Prop where
  slots : RowI1 w' w.heap.size v1 b.sl
  free : RowI1 w' w.heap.size v2 b.free
  attrs : RowG ERt 2 encA w' w.heap.size v3 b.attrs
  below : Below w.heap.size w w'
  ne : ∀ k, v1.ownBlock = some k → v2.ownBlock ≠ some k
theorem DocOwn.sees {w w' : World} {b : BlkS} {v1 v2 v3 : Value} (h : DocOwn w w' b v1 v2 v3) : DocSees w' b.sl b.free b.attrs v1 v2 v3 := ⟨h.slots.sees (fun _ => rfl), h.free.sees (fun _ => rfl), h.attrs.sees (fun _ => rfl)⟩
/-- A variable that holds a block of the document's, its lists in blocks from B on. -/
structure VarD (W : World) (B g : Nat) (b : BlkS) (v1 v2 v3 : Value) : Prop where
  blk : DocAt W g b.addr b.aff v1 v2 v3
  slots : RowI1 W B v1 b.sl
  free : RowI1 W B v2 b.free
  attrs : RowG ERt 2 encA W B v3 b.attrs
  ne : ∀ k, v1.ownBlock = some k → v2.ownBlock ≠ some k
theorem VarD.below {W W' : World} {B g : Nat} {b : BlkS} {v1 v2 v3 : Value} (h : VarD W B g b v1 v2 v3) (hb : Below W.heap.size W W') : VarD W' B g b v1 v2 v3 := ⟨h.blk.below hb, h.slots.below hb, h.free.below hb, h.attrs.below hb, h.ne⟩
theorem VarD.sees {W : World} {B g : Nat} {b : BlkS} {v1 v2 v3 : Value} (h : VarD W B g b v1 v2 v3) : DocSees W b.sl b.free b.attrs v1 v2 v3 := ⟨h.slots.sees (fun _ => rfl), h.free.sees (fun _ => rfl), h.attrs.sees (fun _ => rfl)⟩
set_option maxRecDepth 100000 in
set_option maxHeartbeats 8000000 in
theorem copyE_any (y : Int) (s : ByteArray) (v1 v2 v3 : Value) (sl free : List Int) (attrs : List PA) (w : World) (h : DocSees w sl free attrs v1 v2 v3) (hl1 : sl.length ≤ 1000000) (hl2 : free.length ≤ 1000000) (hl3 : attrs.length ≤ 1000000) :
    Calls Tryz.prog 28 #[docV y s v1 v2 v3] w fun e w' => ∃ u1 u2 u3, e = .returned (docV y s u1 u2 u3) ∧ RowI1 w' w.heap.size u1 sl ∧ RowI1 w' w.heap.size u2 free ∧ RowG ERt 2 encA w' w.heap.size u3 attrs ∧ Below w.heap.size w w' ∧ (∀ k, u1.ownBlock = some k → u2.ownBlock ≠ some k) := by
  obtain ⟨a1, c1, rfl⟩ := h.slots.slice
  obtain ⟨a2, c2, rfl⟩ := h.free.slice
  obtain ⟨a3, c3, rfl⟩ := h.attrs.slice
  obtain ⟨hb0, hA, hT, hsz⟩ := two_newB w (docO y s (.slice a1 sl.length c1) (.slice a2 free.length c2) (.slice a3 attrs.length c3)) (docO 0 ⟨#[]⟩ NS NS NS)
  obtain ⟨W, hW⟩ : ∃ W, W = (w.alloc (docO y s (.slice a1 sl.length c1) (.slice a2 free.length c2) (.slice a3 attrs.length c3))).alloc (docO 0 ⟨#[]⟩ NS NS NS) := ⟨_, rfl⟩
  rw [← hW] at hb0 hA hT hsz
  have HD := Lib.hid (And.intro (show DocAt W w.heap.size y s (.slice a1 sl.length c1) (.slice a2 free.length c2) (.slice a3 attrs.length c3) from hA) (And.intro (show DocAt W (w.heap.size + 1) 0 ⟨#[]⟩ NS NS NS from hT) (And.intro hb0 (Nat.le_of_eq hsz.symm))))
  have H0 := Lib.hid h
  have HW := Lib.hid hW
  generalize hn1 : sl.length = n1 at *
  generalize hn2 : free.length = n2 at *
  generalize hn3 : attrs.length = n3 at *
  have HN := Lib.hid (And.intro hn1 (And.intro hn2 hn3))
  clear hb0 hA hT hsz hW h hn1 hn2 hn3
  have k1 := (HD.out.1.below (belNew W (.cells #[] 3))).cells.2.2.1
  go_enter Tryz.func28, Tryz.ntmps28
  go_upto_region 1 with fail
  change Code.wp _ _ _ _ ((w.alloc (docO y s (.slice a1 n1 c1) (.slice a2 n2 c2) (.slice a3 n3 c3))).alloc (docO 0 ⟨#[]⟩ NS NS NS))
  rw [← HW.out]
  clear HW
  go_upto_region 2 with (at_builtin; refine wpList_copyG (w0 := W) (T := 32) (E := 3) (enc := encI1) Tryz.underlying32 infoI rfl (by decide) (by decide) (fun _ => rfl) encI1_one rfl (.tmp 3) (.tmp 5) rfl (.slice a1 n1 c1) sl W.heap.size rfl rfl rfl (H0.out.below HD.out.2.2.1).slots (by rw [HN.out.1]; omega) ?_; intro v w2 ho2 hb2; obtain ⟨o2, d2, rfl⟩ := ho2.slice; have HX2 := Lib.hid (And.intro ho2 hb2); have m1 := (HD.out.1.below hb2).cells.2.2.1; have m2 := (HD.out.1.below hb2).froz 2; clear ho2 hb2)
  have hW2 : w.heap.size + 1 < W.heap.size := by have := HD.out.2.2.2; omega
  have hD2 := (HD.out.1.below HX2.out.2).set2 (.slice o2 sl.length d2)
  have hZ2 := (HD.out.2.1.below HX2.out.2).setO (p := ⟨w.heap.size, 2, none⟩) (by show w.heap.size + 1 ≠ w.heap.size; omega) (.slice o2 sl.length d2)
  have hR2 : RowG 3 1 encI1 (w2.setCell ⟨w.heap.size, 2, none⟩ (.slice o2 sl.length d2)) (w.heap.size + 2) (.slice o2 sl.length d2) sl := own_le (own_set HX2.out.1 (a := ⟨w.heap.size, 2, none⟩) (by show w.heap.size < W.heap.size; omega) _) hW2
  have hB2 : Below w.heap.size w (w2.setCell ⟨w.heap.size, 2, none⟩ (.slice o2 sl.length d2)) := (HD.out.2.2.1.trans (HX2.out.2.mono HD.out.2.2.1.size)).setCell (p := ⟨w.heap.size, 2, none⟩) (Nat.le_refl _) _
  have hS2 : w.heap.size + 2 ≤ (w2.setCell ⟨w.heap.size, 2, none⟩ (.slice o2 sl.length d2)).heap.size := size_set (Nat.le_trans HD.out.2.2.2 HX2.out.2.size) _ _
  generalize (w2.setCell ⟨w.heap.size, 2, none⟩ (.slice o2 sl.length d2)) = u2 at *
  have HE2 := Lib.hid (And.intro hD2 (And.intro hZ2 (And.intro hB2 hS2)))
  have HR2 := Lib.hid hR2
  clear k1 hW2 hD2 hZ2 hR2 hB2 hS2
  have k1 := (HE2.out.1.below (belNew u2 (.cells #[] 3))).cells.2.2.2.1
  go_upto_region 3 with (at_builtin; refine wpList_copyG (w0 := u2) (T := 32) (E := 3) (enc := encI1) Tryz.underlying32 infoI rfl (by decide) (by decide) (fun _ => rfl) encI1_one rfl (.tmp 8) (.tmp 10) rfl (.slice a2 n2 c2) free u2.heap.size rfl rfl rfl (H0.out.below HE2.out.2.2.1).free (by rw [HN.out.2.1]; omega) ?_; intro v w3 ho3 hb3; obtain ⟨o3, d3, rfl⟩ := ho3.slice; have HX3 := Lib.hid (And.intro ho3 hb3); have m1 := (HE2.out.1.below hb3).cells.2.2.2.1; have m2 := (HE2.out.1.below hb3).froz 3; clear ho3 hb3)
  have hW3 : w.heap.size + 1 < u2.heap.size := by have := HE2.out.2.2.2; omega
  have hD3 := (HE2.out.1.below HX3.out.2).set3 (.slice o3 free.length d3)
  have hZ3 := (HE2.out.2.1.below HX3.out.2).setO (p := ⟨w.heap.size, 3, none⟩) (by show w.heap.size + 1 ≠ w.heap.size; omega) (.slice o3 free.length d3)
  have hR3 : RowG 3 1 encI1 (w3.setCell ⟨w.heap.size, 3, none⟩ (.slice o3 free.length d3)) (w.heap.size + 2) (.slice o3 free.length d3) free := own_le (own_set HX3.out.1 (a := ⟨w.heap.size, 3, none⟩) (by show w.heap.size < u2.heap.size; omega) _) hW3
  have hB3 : Below w.heap.size w (w3.setCell ⟨w.heap.size, 3, none⟩ (.slice o3 free.length d3)) := (HE2.out.2.2.1.trans (HX3.out.2.mono HE2.out.2.2.1.size)).setCell (p := ⟨w.heap.size, 3, none⟩) (Nat.le_refl _) _
  have hS3 : w.heap.size + 2 ≤ (w3.setCell ⟨w.heap.size, 3, none⟩ (.slice o3 free.length d3)).heap.size := size_set (Nat.le_trans HE2.out.2.2.2 HX3.out.2.size) _ _
  have hR2_3 : RowG 3 1 encI1 (w3.setCell ⟨w.heap.size, 3, none⟩ (.slice o3 free.length d3)) (w.heap.size + 2) (.slice o2 sl.length d2) sl := own_set (own_keep HR2.out HX3.out.2) (a := ⟨w.heap.size, 3, none⟩) (by show w.heap.size < w.heap.size + 2; omega) _
  generalize (w3.setCell ⟨w.heap.size, 3, none⟩ (.slice o3 free.length d3)) = u3 at *
  have HE3 := Lib.hid (And.intro hD3 (And.intro hZ3 (And.intro hB3 hS3)))
  have HNE : Hid (∀ k, (Value.slice o2 sl.length d2).ownBlock = some k → (Value.slice o3 free.length d3).ownBlock ≠ some k) := Lib.hid (own_lt (fun k hk => (World.ownsRow.lt HR2.out k hk).2) HX3.out.1)
  have HR2 := Lib.hid hR2_3
  have HR3 := Lib.hid hR3
  clear k1 hW3 hD3 hZ3 hR3 hB3 hS3 hR2_3
  have k1 := (HE3.out.1.below (belNew u3 (.cells #[] 38))).cells.2.2.2.2
  go_upto_region 4 with (at_builtin; refine wpList_copyG (w0 := u3) (T := 33) (E := ERt) (enc := encA) Tryz.underlying33 infoRA rfl (by decide) (by decide) (fun _ => rfl) encA_one rfl (.tmp 13) (.tmp 15) rfl (.slice a3 n3 c3) attrs u3.heap.size rfl rfl rfl (H0.out.below HE3.out.2.2.1).attrs (by rw [HN.out.2.2]; omega) ?_; intro v w4 ho4 hb4; obtain ⟨o4, d4, rfl⟩ := ho4.slice; have HX4 := Lib.hid (And.intro ho4 hb4); have m1 := (HE3.out.1.below hb4).cells.2.2.2.2; have m2 := (HE3.out.1.below hb4).froz 4; clear ho4 hb4)
  have hW4 : w.heap.size + 1 < u3.heap.size := by have := HE3.out.2.2.2; omega
  have hD4 := (HE3.out.1.below HX4.out.2).set4 (.slice o4 attrs.length d4)
  have hZ4 := (HE3.out.2.1.below HX4.out.2).setO (p := ⟨w.heap.size, 4, none⟩) (by show w.heap.size + 1 ≠ w.heap.size; omega) (.slice o4 attrs.length d4)
  have hR4 : RowG ERt 2 encA (w4.setCell ⟨w.heap.size, 4, none⟩ (.slice o4 attrs.length d4)) (w.heap.size + 2) (.slice o4 attrs.length d4) attrs := own_le (own_set HX4.out.1 (a := ⟨w.heap.size, 4, none⟩) (by show w.heap.size < u3.heap.size; omega) _) hW4
  have hB4 : Below w.heap.size w (w4.setCell ⟨w.heap.size, 4, none⟩ (.slice o4 attrs.length d4)) := (HE3.out.2.2.1.trans (HX4.out.2.mono HE3.out.2.2.1.size)).setCell (p := ⟨w.heap.size, 4, none⟩) (Nat.le_refl _) _
  have hS4 : w.heap.size + 2 ≤ (w4.setCell ⟨w.heap.size, 4, none⟩ (.slice o4 attrs.length d4)).heap.size := size_set (Nat.le_trans HE3.out.2.2.2 HX4.out.2.size) _ _
  have hR2_4 : RowG 3 1 encI1 (w4.setCell ⟨w.heap.size, 4, none⟩ (.slice o4 attrs.length d4)) (w.heap.size + 2) (.slice o2 sl.length d2) sl := own_set (own_keep HR2.out HX4.out.2) (a := ⟨w.heap.size, 4, none⟩) (by show w.heap.size < w.heap.size + 2; omega) _
  have hR3_4 : RowG 3 1 encI1 (w4.setCell ⟨w.heap.size, 4, none⟩ (.slice o4 attrs.length d4)) (w.heap.size + 2) (.slice o3 free.length d3) free := own_set (own_keep HR3.out HX4.out.2) (a := ⟨w.heap.size, 4, none⟩) (by show w.heap.size < w.heap.size + 2; omega) _
  generalize (w4.setCell ⟨w.heap.size, 4, none⟩ (.slice o4 attrs.length d4)) = u4 at *
  have HE4 := Lib.hid (And.intro hD4 (And.intro hZ4 (And.intro hB4 hS4)))
  have HR2 := Lib.hid hR2_4
  have HR3 := Lib.hid hR3_4
  have HR4 := Lib.hid hR4
  clear k1 hW4 hD4 hZ4 hR4 hB4 hS4 hR2_4 hR3_4
  obtain ⟨k0, k1, k2, k3, k4⟩ := HE4.out.1.cells
  obtain ⟨j0, j1, j2, j3, j4⟩ := HE4.out.2.1.cells
  have z0 := HE4.out.2.1.froz 0
  have z1 := HE4.out.2.1.froz 1
  have z2 := HE4.out.2.1.froz 2
  have z3 := HE4.out.2.1.froz 3
  have z4 := HE4.out.2.1.froz 4
  have hE : (((((u4.setCell ⟨w.heap.size + 1, 0, none⟩ (.int .u32 y)).setCell ⟨w.heap.size + 1, 1, none⟩ (.string s)).setCell ⟨w.heap.size + 1, 2, none⟩ (.slice o2 sl.length d2)).setCell ⟨w.heap.size + 1, 3, none⟩ (.slice o3 free.length d3)).setCell ⟨w.heap.size + 1, 4, none⟩ (.slice o4 attrs.length d4)).heap[w.heap.size + 1]? = some (docO y s (.slice o2 sl.length d2) (.slice o3 free.length d3) (.slice o4 attrs.length d4)) := by
    have h' : u4.heap[w.heap.size + 1]? = some (.cells #[.int .u32 0, .string ⟨#[]⟩, NS, NS, NS] TD (0, 0)) := HE4.out.2.1
    simp [World.setCell, Array.getElem?_modify, h']
  have hO : ∀ {E : TypeId} {s' nn : Nat} {v : Value} {xs : List Value}, u4.ownsRow (w.heap.size + 2) E s' v nn xs → (((((u4.setCell ⟨w.heap.size + 1, 0, none⟩ (.int .u32 y)).setCell ⟨w.heap.size + 1, 1, none⟩ (.string s)).setCell ⟨w.heap.size + 1, 2, none⟩ (.slice o2 sl.length d2)).setCell ⟨w.heap.size + 1, 3, none⟩ (.slice o3 free.length d3)).setCell ⟨w.heap.size + 1, 4, none⟩ (.slice o4 attrs.length d4)).ownsRow (w.heap.size + 2) E s' v nn xs := fun h => own_set (own_set (own_set (own_set (own_set h (a := ⟨w.heap.size + 1, 0, none⟩) (Nat.lt_succ_self _) _) (a := ⟨w.heap.size + 1, 1, none⟩) (Nat.lt_succ_self _) _) (a := ⟨w.heap.size + 1, 2, none⟩) (Nat.lt_succ_self _) _) (a := ⟨w.heap.size + 1, 3, none⟩) (Nat.lt_succ_self _) _) (a := ⟨w.heap.size + 1, 4, none⟩) (Nat.lt_succ_self _) _
  have hB5 : Below w.heap.size w (((((u4.setCell ⟨w.heap.size + 1, 0, none⟩ (.int .u32 y)).setCell ⟨w.heap.size + 1, 1, none⟩ (.string s)).setCell ⟨w.heap.size + 1, 2, none⟩ (.slice o2 sl.length d2)).setCell ⟨w.heap.size + 1, 3, none⟩ (.slice o3 free.length d3)).setCell ⟨w.heap.size + 1, 4, none⟩ (.slice o4 attrs.length d4)) := ((((HE4.out.2.2.1.setCell (p := ⟨w.heap.size + 1, 0, none⟩) (Nat.le_succ _) _).setCell (p := ⟨w.heap.size + 1, 1, none⟩) (Nat.le_succ _) _).setCell (p := ⟨w.heap.size + 1, 2, none⟩) (Nat.le_succ _) _).setCell (p := ⟨w.heap.size + 1, 3, none⟩) (Nat.le_succ _) _).setCell (p := ⟨w.heap.size + 1, 4, none⟩) (Nat.le_succ _) _
  have q1 := own_le (B' := w.heap.size) (hO HR2.out) (by omega)
  have q2 := own_le (B' := w.heap.size) (hO HR3.out) (by omega)
  have q3 := own_le (B' := w.heap.size) (hO HR4.out) (by omega)
  have HF := Lib.hid (And.intro hE (And.intro q1 (And.intro q2 (And.intro q3 hB5))))
  clear hE hO hB5 q1 q2 q3
  go_wp2_with fail
  exact bodyPost_ret (v := docV y s (.slice o2 sl.length d2) (.slice o3 free.length d3) (.slice o4 attrs.length d4)) (resB1 rfl rfl (loadVarD HF.out.1)) rfl ⟨_, _, _, rfl, HF.out.2.1, HF.out.2.2.1, HF.out.2.2.2.1, HF.out.2.2.2.2, HNE.out⟩
/-- The last place of one in the first n of a row. -/
def lastK (a : PA) (L : List PA) : Nat → Int
  | 0 => -1
  | n + 1 => if L.getD n default = a then (n : Int) else lastK a L n
theorem lastK_no {a : PA} {L : List PA} : ∀ n, n ≤ L.length → a ∉ L.take n → lastK a L n = -1
  | 0, _, _ => rfl
  | n + 1, hn, h => by
    have hg : L[n]? = some (L.getD n default) := by rw [List.getD_eq_getElem?_getD, List.getElem?_eq_getElem (by omega)]; rfl
    have e : L.take (n + 1) = L.take n ++ [L.getD n default] := by rw [List.take_add_one, hg]; rfl
    rw [e] at h
    rw [lastK, if_neg (fun h2 => h (by rw [h2]; simp)), lastK_no n (by omega) (fun h2 => h (by simp [h2]))]
theorem lastK_yes {a : PA} {L : List PA} (hn : L.Nodup) (h : a ∈ L) : ∀ n, n ≤ L.length → ixA a L < n → lastK a L n = (ixA a L : Int)
  | 0, _, h2 => absurd h2 (Nat.not_lt_zero _)
  | n + 1, hl, h2 => by
    have hg := ixA_get h
    by_cases e : ixA a L = n
    · have : L.getD n default = a := by rw [List.getD_eq_getElem?_getD, ← e, hg]; rfl
      rw [lastK, if_pos this, e]
    · have hne : L.getD n default ≠ a := fun h3 => by
        have h4 : L[n]? = some a := by rw [← h3, List.getD_eq_getElem?_getD, List.getElem?_eq_getElem (by omega)]; rfl
        rw [List.Nodup, List.pairwise_iff_getElem] at hn
        have hi := (List.getElem?_eq_some_iff.1 hg).1
        have hj := (List.getElem?_eq_some_iff.1 h4).1
        have h5 := (List.getElem?_eq_some_iff.1 hg).2
        have h6 := (List.getElem?_eq_some_iff.1 h4).2
        exact hn (ixA a L) n hi hj (by omega) (h5.trans h6.symm)
      rw [lastK, if_neg hne, lastK_yes hn h n (by omega) (by omega)]
theorem lastK_all {a : PA} {L : List PA} (hn : L.Nodup) : lastK a L L.length = if a ∈ L then (ixA a L : Int) else -1 := by
  by_cases h : a ∈ L
  · rw [if_pos h, lastK_yes hn h L.length (Nat.le_refl _) (ixA_lt.2 h)]
  · rw [if_neg h, lastK_no L.length (Nat.le_refl _) (by rw [List.take_length]; exact h)]
end
section
open Go.RowKit Go.Maps
theorem RowI1.stored {w : World} {B g n c : Nat} {xs : List Int} (h : RowI1 w B (.slice (some ⟨g, 0, none⟩) n c) xs) (j : Nat) (x : Int) : RowI1 (w.setCell ⟨g, j, none⟩ (.int .i64 x)) B (.slice (some ⟨g, 0, none⟩) n c) (xs.set j x) ∧ w.grownBy (w.setCell ⟨g, j, none⟩ (.int .i64 x)) (some g) := by
  have hn : n = xs.length := by
    obtain ⟨ao, c', e⟩ := h.slice
    cases e
    rfl
  subst hn
  obtain ⟨h1, h2⟩ := World.ownsRow.stored h j (.int .i64 x)
  refine ⟨?_, h2⟩
  show World.ownsRow _ _ _ _ _ _ _
  rw [List.length_set, flat_I1]
  rw [flat_I1] at h1
  unfold cellsI at h1 ⊢
  rw [List.map_set]
  exact h1
theorem row_own {α : Type} {E : TypeId} {s : Nat} {enc : α → List Value} {w : World} {B : Nat} {v : Value} {L : List α} (h : RowG E s enc w B v L) (hne : L ≠ []) : ∃ g c, v = .slice (some ⟨g, 0, none⟩) L.length c ∧ B ≤ g ∧ g < w.heap.size := by
  rcases h.2 with ⟨e, h0⟩ | ⟨g, cap, cur, e, hb, hh, _⟩
  · exact absurd (List.eq_nil_of_length_eq_zero h0) hne
  · exact ⟨g, cap, e, hb, heap_lt hh⟩
/-- While one is given: the block's variable, the attribute's, the result's. -/
structure GvI (w : World) (B : Nat) (b : BlkS) (a : PA) (v1 v2 v3 : Value) (X : World) : Prop where
  var : VarD X B w.heap.size b v1 v2 v3
  at' : X.heap[w.heap.size + 1]? = some (rtO a)
  zero : DocAt X (w.heap.size + 2) 0 ⟨#[]⟩ NS NS NS
  below : Below w.heap.size w X
  base : w.heap.size + 3 ≤ B
theorem GvI.later {w : World} {B : Nat} {b : BlkS} {a : PA} {v1 v2 v3 : Value} {X Y : World} (h : GvI w B b a v1 v2 v3 X) (hb : Below X.heap.size X Y) : GvI w B b a v1 v2 v3 Y :=
  ⟨h.var.below hb, (hb.block _ (heap_lt h.at')).trans h.at', h.zero.below hb, h.below.trans (hb.mono h.below.size), h.base⟩
set_option maxRecDepth 100000 in
set_option maxHeartbeats 16000000 in
theorem give_any (b : BlkS) (v1 v2 v3 : Value) (i : Nat) (a : PA) (w : World) (h : DocSees w b.sl b.free b.attrs v1 v2 v3) (hl : b.sl.length = 64) (hi : i < 64) (hfl : b.free.length ≤ 1000000) (hal : b.attrs.length ≤ 1000000) (hnd : b.attrs.Nodup) :
    Calls Tryz.prog 50 #[docV b.addr b.aff v1 v2 v3, .int .i64 i, atV a] w fun e w' => ∃ u1 u2 u3, e = .returned (docV b.addr b.aff u1 u2 u3) ∧ DocOwn w w' (dvS b i a) u1 u2 u3 := by
  obtain ⟨a1, c1, rfl⟩ := h.slots.slice
  obtain ⟨a2, c2, rfl⟩ := h.free.slice
  obtain ⟨a3, c3, rfl⟩ := h.attrs.slice
  obtain ⟨hb0, hA, hT, hR, hsz⟩ := three_newB w (docO b.addr b.aff (.slice a1 b.sl.length c1) (.slice a2 b.free.length c2) (.slice a3 b.attrs.length c3)) (rtO a) (docO 0 ⟨#[]⟩ NS NS NS)
  obtain ⟨W, hW⟩ : ∃ W, W = ((w.alloc (docO b.addr b.aff (.slice a1 b.sl.length c1) (.slice a2 b.free.length c2) (.slice a3 b.attrs.length c3))).alloc (rtO a)).alloc (docO 0 ⟨#[]⟩ NS NS NS) := ⟨_, rfl⟩
  rw [← hW] at hb0 hA hT hR hsz
  have HX0 : Hid (DocAt W w.heap.size b.addr b.aff (.slice a1 b.sl.length c1) (.slice a2 b.free.length c2) (.slice a3 b.attrs.length c3)) := Lib.hid hA
  have HT0 := Lib.hid hT
  have HZ0 : Hid (DocAt W (w.heap.size + 2) 0 ⟨#[]⟩ NS NS NS) := Lib.hid hR
  have HB0 := Lib.hid hb0
  have HSZ := Lib.hid hsz
  have HW := Lib.hid hW
  have HCP := Lib.hid (copyE_any b.addr b.aff _ _ _ b.sl b.free b.attrs W (h.below hb0) (by omega) hfl hal)
  have HL64 := Lib.hid hl
  have HLK := Lib.hid (lastK_all (a := a) hnd)
  have HI := Lib.hid hi
  have HLL := Lib.hid (And.intro hfl hal)
  clear hW hb0 hA hT hR hsz h hl hnd hi
  go_enter Tryz.func50, Tryz.ntmps50
  go_upto_region 1 with fail
  change Code.wp _ _ _ _ (((w.alloc (docO b.addr b.aff (.slice a1 b.sl.length c1) (.slice a2 b.free.length c2) (.slice a3 b.attrs.length c3))).alloc (rtO a)).alloc (docO 0 ⟨#[]⟩ NS NS NS))
  rw [← HW.out]
  clear HW
  go_wp2_with (refine wpLdD rfl _ rfl rfl HX0.out ?_)
  refine HCP.out.mono ?_; rintro e w1 ⟨u1, u2, u3, rfl, hr1, hr2, hr3, hb1, hne⟩
  obtain ⟨o1, d1, rfl⟩ := hr1.slice
  obtain ⟨o2, d2, rfl⟩ := hr2.slice
  obtain ⟨o3, d3, rfl⟩ := hr3.slice
  have HX1 := Lib.hid (HX0.out.below hb1)
  have HR := Lib.hid (And.intro hr1 (And.intro hr2 (And.intro hr3 (And.intro hb1 hne))))
  clear hr1 hr2 hr3 hb1 hne HCP
  go_upto_region 2 with (refine wpStD (y := b.addr) (s := b.aff) rfl _ _ rfl rfl rfl HX1.out rfl rfl rfl ?_; intro w2 hx2 hg2)
  have HG2 : Hid (GvI w W.heap.size b a (.slice o1 b.sl.length d1) (.slice o2 b.free.length d2) (.slice o3 b.attrs.length d3) w2) := Lib.hid (by
    obtain ⟨r1, r2, r3, hb1, hne⟩ := HR.out
    have hlt : w.heap.size < W.heap.size := by have := HSZ.out; omega
    refine ⟨⟨hx2, own_grown r1 hg2 hlt, own_grown r2 hg2 hlt, own_grown r3 hg2 hlt, hne⟩, ?_, ?_, ?_, by have := HSZ.out; omega⟩
    · rw [hg2.block _ (by have := hb1.size; have := HSZ.out; omega) (fun e => by have := Option.some.inj e; omega)]
      exact (hb1.block _ (heap_lt HT0.out)).trans HT0.out
    · exact (hg2.block _ (by have := hb1.size; have := HSZ.out; omega) (fun e => by have := Option.some.inj e; omega)).trans ((HZ0.out.below hb1))
    · exact (HB0.out.trans (hb1.mono HB0.out.size)).grown hg2 (Nat.le_trans HB0.out.size hb1.size) (fun k hk => by cases hk; exact Nat.le_refl _))
  clear hx2 hg2 HR HX1 HX0 HT0 HZ0 HB0
  generalize hBB : W.heap.size = B at HG2
  clear hBB
  obtain ⟨k0, k1, k2, k3, k4⟩ := HG2.out.var.blk.cells
  go_wp2_with fail
  clear k0 k1 k2 k3 k4
  have eqr := eqlRt
  go_loopw [7, 18] (fun u j wr => ∃ n : Nat, n ≤ b.attrs.length ∧ j = .int .i64 n ∧ u = .int .i64 (lastK a b.attrs n) ∧ Hid (GvI w B b a (.slice o1 b.sl.length d1) (.slice o2 b.free.length d2) (.slice o3 b.attrs.length d3) wr)) (fun _ j _ => b.attrs.length - (intOf j).toNat)
  case atStart => exact ⟨0, Nat.zero_le _, rfl, rfl, HG2⟩
  case round =>
    obtain ⟨n, hn, rfl, rfl, HG⟩ := hrel
    by_cases hlt : n < b.attrs.length
    · have hp : b.attrs[n]? = some (b.attrs.getD n default) := by rw [List.getD_eq_getElem?_getD, List.getElem?_eq_getElem hlt]; rfl
      have hlk : lastK a b.attrs (n + 1) = if b.attrs.getD n default = a then (n : Int) else lastK a b.attrs n := rfl
      generalize b.attrs.getD n default = p at hp hlk
      obtain ⟨x, ex, -, hx⟩ := HG.out.var.sees.attrs.at hp
      subst ex
      have q0 : wr.cell? (x.add (n * 2)) = some (.string p.1) := hx 0 _ rfl
      have q1 : wr.cell? { block := (x.add (n * 2)).block, off := (x.add (n * 2)).off + 1 } = some (.string p.2) := hx 1 _ rfl
      have b0 : (0 : Int) ≤ (n : Int) := by omega
      have b1 : (n : Int) < (b.attrs.length : Int) := by omega
      have dd : decide ((n : Int) < (b.attrs.length : Int)) = true := by simp; omega
      have s1 : IntKind.i64.wrap ((n : Int) + 1) = (n : Int) + 1 := IntWalk.i64_in _ (by omega)
      have HLT := Lib.hid hlt
      have HLK1 := Lib.hid hlk
      clear hx hp hlt hlk
      go_upto_region 6 with fail
      obtain ⟨wx, hwx⟩ : ∃ wx, wx = wr.alloc (rtO p) := ⟨_, rfl⟩
      have hx1 : wx.heap[wr.heap.size]? = some (rtO p) := by rw [hwx]; exact heap_new wr _
      have hbx : Below wr.heap.size wr wx := by rw [hwx]; exact belNew wr _
      change Code.wp _ _ _ _ (wr.alloc (rtO p))
      rw [← hwx]
      obtain ⟨x0, x1⟩ := cells2 hx1
      have HGX := Lib.hid (HG.out.later hbx)
      obtain ⟨y0, y1⟩ := cells2 HGX.out.at'
      clear hwx hx1 hbx q0 q1
      by_cases hpa : p = a
      · have dq : decide (p = a) = true := decide_eq_true hpa
        have HL2 : Hid (lastK a b.attrs (n + 1) = (n : Int)) := Lib.hid (by rw [HLK1.out, if_pos hpa])
        clear hpa
        go_wp2_with fail
        go_roundw
        case rel => exact ⟨n + 1, HLT.out, by go_num, by rw [HL2.out], HGX⟩
        case measure => simp [intOf]; have := HLT.out; omega
      · have dq : decide (p = a) = false := decide_eq_false hpa
        have HL2 : Hid (lastK a b.attrs (n + 1) = lastK a b.attrs n) := Lib.hid (by rw [HLK1.out, if_neg hpa])
        clear hpa
        go_wp2_with fail
        go_roundw
        case rel => exact ⟨n + 1, HLT.out, by go_num, by rw [HL2.out], HGX⟩
        case measure => simp [intOf]; have := HLT.out; omega
    · obtain rfl : n = b.attrs.length := by omega
      have dd : decide ((b.attrs.length : Int) < (b.attrs.length : Int)) = false := by simp
      clear HG2 hlt
      rw [HLK.out]
      by_cases hin : a ∈ b.attrs
      · rw [if_pos hin]
        have HA : Hid (dvA b a = b.attrs ∧ dvK b a = ixA a b.attrs) := Lib.hid ⟨by unfold dvA; rw [if_pos hin], by unfold dvK; rw [if_pos hin]⟩
        have hkx : ixA a b.attrs ≤ 1000000 := by have := ixA_le a b.attrs; omega
        generalize ixA a b.attrs = kx at HA hkx ⊢
        have dk : decide ((kx : Int) < 0) = false := by simp
        have HV : Hid (GvI w B ⟨b.addr, b.aff, b.sl, b.free, b.attrs⟩ a (.slice o1 b.sl.length d1) (.slice o2 b.free.length d2) (.slice o3 b.attrs.length d3) wr) := HG
        obtain ⟨w5, rfl⟩ : ∃ w5, w5 = wr := ⟨_, rfl⟩
        clear hin HG
        go_upto_region 12 with fail
        -- the slot, the free ones, the result
        obtain ⟨gs, ds, es, hgB, hgl⟩ := row_own HV.out.var.slots (by intro e; have := HL64.out; rw [e] at this; cases this)
        obtain ⟨rfl, rfl⟩ : o1 = some ⟨gs, 0, none⟩ ∧ d1 = ds := by cases es; exact ⟨rfl, rfl⟩
        have hib : i < b.sl.length := by rw [HL64.out]; exact HI.out
        obtain ⟨xs0, hxs0⟩ : ∃ x, b.sl[i]? = some x := ⟨_, List.getElem?_eq_getElem hib⟩
        obtain ⟨ga, ega, -, hxa⟩ := HV.out.var.sees.slots.at hxs0
        obtain rfl : ga = ⟨gs, 0, none⟩ := (Option.some.inj ega).symm
        have q0 : w5.cell? ((⟨gs, 0, none⟩ : Addr).add (i * 1)) = some (.int .i64 xs0) := hxa 0 _ rfl
        rw [Nat.mul_one, add0] at q0
        have f0 : w5.frozen? ⟨gs, i, none⟩ = false := World.ownsRow.frozenAt HV.out.var.slots i
        obtain ⟨k0, k1, k2, k3, k4⟩ := HV.out.var.blk.cells
        have bi0 : (0 : Int) ≤ (i : Int) := by omega
        have bi1 : (i : Int) < (b.sl.length : Int) := by omega
        have sk : IntKind.i64.wrap ((kx : Int) + 1) = (kx : Int) + 1 := IntWalk.i64_in _ (by omega)
        have HGS := Lib.hid hgB
        clear hxa ega hxs0 es hib hgl hgB
        go_upto_region 13 with fail
        have HV6 : Hid (GvI w B ⟨b.addr, b.aff, b.sl.set i ((kx : Int) + 1), b.free, b.attrs⟩ a (.slice (some ⟨gs, 0, none⟩) b.sl.length d1) (.slice o2 b.free.length d2) (.slice o3 b.attrs.length d3) (w5.setCell ⟨gs, i, none⟩ (.int .i64 ((kx : Int) + 1)))) := Lib.hid (by
          have hv := HV.out
          obtain ⟨r1, hg⟩ := RowI1.stored hv.var.slots i ((kx : Int) + 1)
          have hbs := hv.base
          have hgs := HGS.out
          refine ⟨⟨hv.var.blk.setO (p := ⟨gs, i, none⟩) (by show w.heap.size ≠ gs; omega) _, r1, own_grownO hv.var.free hg (fun k hk e => hv.var.ne k (by rw [← e]; rfl) hk), own_grownO hv.var.attrs hg (fun k hk e => own_ne hv.var.slots hv.var.attrs (by decide) k (by rw [← e]; rfl) hk), hv.var.ne⟩, ?_, hv.zero.setO (p := ⟨gs, i, none⟩) (by show w.heap.size + 2 ≠ gs; omega) _, hv.below.setCell (p := ⟨gs, i, none⟩) (by show w.heap.size ≤ gs; omega) _, hv.base⟩
          exact (Below.heap_setCell _ _ _ _ (by show w.heap.size + 1 ≠ gs; omega)).trans hv.at')
        change Code.wp _ _ _ _ (w5.setCell ⟨gs, i, none⟩ (.int .i64 ((kx : Int) + 1)))
        generalize w5.setCell ⟨gs, i, none⟩ (.int .i64 ((kx : Int) + 1)) = w6 at HV6 ⊢
        clear q0 f0 k0 k1 k2 k3 k4 HV
        obtain ⟨k0, k1, k2, k3, k4⟩ := HV6.out.var.blk.cells
        go_wp2_with fail
        clear k0 k1 k2 k3 k4
        go_loopw [10, 48] (fun u j wr => ∃ n : Nat, n ≤ b.free.length ∧ j = .int .i64 n ∧ Hid (∃ o c, u = .slice o ((b.free.take n).filter (fun x => x != (i : Int))).length c) ∧ Hid (RowI1 wr w6.heap.size u ((b.free.take n).filter (fun x => x != (i : Int))) ∧ Below w6.heap.size w6 wr)) (fun _ j _ => b.free.length - (intOf j).toNat)
        case atStart => exact ⟨0, Nat.zero_le _, rfl, Lib.hid ⟨none, 0, rfl⟩, Lib.hid ⟨RowG.nil _ _ _ _ _, Below.refl _ _⟩⟩
        case round =>
          obtain ⟨n, hn, rfl, HF, HI2⟩ := hrel
          obtain ⟨lo, lc, rfl⟩ := HF.out
          have HVr := Lib.hid (HV6.out.later HI2.out.2)
          by_cases hlt : n < b.free.length
          · have hp : b.free[n]? = some (b.free.getD n 0) := by rw [List.getD_eq_getElem?_getD, List.getElem?_eq_getElem hlt]; rfl
            have hts : b.free.take (n + 1) = b.free.take n ++ [b.free.getD n 0] := take_snocI b.free n hlt
            have hll : ((b.free.take n).filter (fun x => x != (i : Int))).length ≤ 1000001 := by
              have h1 := List.length_filter_le (fun x => x != (i : Int)) (b.free.take n)
              rw [List.length_take] at h1
              omega
            generalize b.free.getD n 0 = x at hp hts
            obtain ⟨xa, exa, -, hx⟩ := HVr.out.var.sees.free.at hp
            subst exa
            have q0 : wr.cell? (xa.add (n * 1)) = some (.int .i64 x) := hx 0 _ rfl
            rw [Nat.mul_one] at q0
            have b0 : (0 : Int) ≤ (n : Int) := by omega
            have b1 : (n : Int) < (b.free.length : Int) := by omega
            have dd : decide ((n : Int) < (b.free.length : Int)) = true := by simp; omega
            have s1 : IntKind.i64.wrap ((n : Int) + 1) = (n : Int) + 1 := IntWalk.i64_in _ (by omega)
            have HLT := Lib.hid hlt
            have HTS := Lib.hid hts
            have HSZ6 : Hid (w6.heap.size ≤ wr.heap.size) := Lib.hid HI2.out.2.size
            clear hx hp hlt hts
            by_cases hxi : x = (i : Int)
            · have dx : (x != (i : Int)) = false := by simp [hxi]
              have HFN : Hid ((b.free.take (n + 1)).filter (fun x => x != (i : Int)) = (b.free.take n).filter (fun x => x != (i : Int))) := Lib.hid (by rw [HTS.out, List.filter_append, List.filter_cons_of_neg (by simp [hxi])]; simp)
              clear hxi
              go_wp2_with fail
              go_roundw
              case rel => exact ⟨n + 1, HLT.out, by go_num, by rw [HFN.out]; exact HF, by rw [HFN.out]; exact HI2⟩
              case measure => simp [intOf]; have := HLT.out; omega
            · have dx : (x != (i : Int)) = true := by simp [hxi]
              have HFN : Hid ((b.free.take (n + 1)).filter (fun x => x != (i : Int)) = (b.free.take n).filter (fun x => x != (i : Int)) ++ [x]) := Lib.hid (by rw [HTS.out, List.filter_append, List.filter_cons_of_pos (by simp [hxi])]; rfl)
              clear hxi
              generalize (b.free.take n).filter (fun x => x != (i : Int)) = FL at HF HI2 HFN hll ⊢
              go_wp2_with (at_builtin; refine wpList_pushG (w0 := wr) (T := 32) (E := 3) (enc := encI1) Tryz.underlying32 infoI rfl (by decide) (by decide) (fun _ => rfl) encI1_one rfl (.tmp 55) (.tmp 57) rfl w6.heap.size _ FL x wr.heap.size rfl rfl rfl HI2.out.1 hll HSZ6.out ?_; intro v7 w7 ho7 hb7 hg7 hat7; have HO7 := Lib.hid ho7; have HB7 := Lib.hid (HI2.out.2.trans hb7); clear ho7 hb7 hg7 hat7)
              go_roundw
              case rel => exact ⟨n + 1, HLT.out, by go_num, by rw [HFN.out]; exact Lib.hid HO7.out.slice, by rw [HFN.out]; exact Lib.hid ⟨HO7.out, HB7.out⟩⟩
              case measure => simp [intOf]; have := HLT.out; omega
          · obtain rfl : n = b.free.length := by omega
            have dd : decide ((b.free.length : Int) < (b.free.length : Int)) = false := by simp
            rw [List.take_length] at HI2
            rw [List.take_length]
            have HDV : Hid (∀ v1 v2 v3 X, VarD X B w.heap.size ⟨b.addr, b.aff, b.sl.set i ((kx : Int) + 1), b.free.filter (fun x => x != (i : Int)), b.attrs⟩ v1 v2 v3 → VarD X B w.heap.size (dvS b i a) v1 v2 v3) := Lib.hid (fun v1 v2 v3 X hv => by
              have e : dvS b i a = ⟨b.addr, b.aff, b.sl.set i ((kx : Int) + 1), b.free.filter (fun x => x != (i : Int)), b.attrs⟩ := by
                show BlkS.mk _ _ _ _ _ = BlkS.mk _ _ _ _ _
                rw [HA.out.1, HA.out.2]
                rfl
              rw [e]
              exact hv)
            generalize b.free.filter (fun x => x != (i : Int)) = FF at HI2 HDV ⊢
            have f3 := HVr.out.var.blk.froz 3
            have k3 := HVr.out.var.blk.cells.2.2.2.1
            clear hlt HF
            go_upto_region 21 with fail
            have HV8 : Hid (VarD (wr.setCell ⟨w.heap.size, 3, none⟩ (.slice lo FF.length lc)) B w.heap.size (dvS b i a) (.slice (some ⟨gs, 0, none⟩) b.sl.length d1) (.slice lo FF.length lc) (.slice o3 b.attrs.length d3)) := Lib.hid (HDV.out _ _ _ _ (by
              have hv := HVr.out
              have hbs := hv.base
              have hz6 : B ≤ w6.heap.size := by have := World.ownsRow.lt HV6.out.var.slots gs rfl; omega
              refine ⟨hv.var.blk.set3 _, own_set hv.var.slots (a := ⟨w.heap.size, 3, none⟩) (by show w.heap.size < B; omega) _, own_set (RowG.le HI2.out.1 hz6) (a := ⟨w.heap.size, 3, none⟩) (by show w.heap.size < B; omega) _, own_set hv.var.attrs (a := ⟨w.heap.size, 3, none⟩) (by show w.heap.size < B; omega) _, fun k hk hk2 => ?_⟩
              have h1 := (World.ownsRow.lt HV6.out.var.slots k hk).2
              have h2 := (World.ownsRow.lt HI2.out.1 k hk2).1
              omega))
            have HZ8 : Hid (DocAt (wr.setCell ⟨w.heap.size, 3, none⟩ (.slice lo FF.length lc)) (w.heap.size + 2) 0 ⟨#[]⟩ NS NS NS ∧ Below w.heap.size w (wr.setCell ⟨w.heap.size, 3, none⟩ (.slice lo FF.length lc)) ∧ w.heap.size + 3 ≤ B) := Lib.hid ⟨HVr.out.zero.setO (p := ⟨w.heap.size, 3, none⟩) (by show w.heap.size + 2 ≠ w.heap.size; omega) _, HVr.out.below.setCell (p := ⟨w.heap.size, 3, none⟩) (Nat.le_refl _) _, HVr.out.base⟩
            change Code.wp _ _ _ _ (wr.setCell ⟨w.heap.size, 3, none⟩ (.slice lo FF.length lc))
            generalize wr.setCell ⟨w.heap.size, 3, none⟩ (.slice lo FF.length lc) = w8 at HV8 HZ8 ⊢
            clear f3 k3 HI2 HVr
            have HBL : Hid (DocAt w8 w.heap.size b.addr b.aff (.slice (some ⟨gs, 0, none⟩) b.sl.length d1) (.slice lo FF.length lc) (.slice o3 b.attrs.length d3)) := Lib.hid HV8.out.blk
            go_wp2_with (first
              | (refine wpLdD rfl _ rfl rfl HBL.out ?_)
              | (refine wpStD (y := b.addr) (s := b.aff) rfl _ _ rfl rfl rfl HZ8.out.1 rfl rfl rfl ?_; intro w9 hx9 hg9))
            have hlt9 : w.heap.size + 2 < B := by have := HZ8.out.2.2; omega
            have hwB : w.heap.size ≤ B := by have := HZ8.out.2.2; omega
            exact bodyPost_ret (v := docV b.addr b.aff (.slice (some ⟨gs, 0, none⟩) b.sl.length d1) (.slice lo FF.length lc) (.slice o3 b.attrs.length d3)) (resB1 rfl rfl (loadVarD hx9)) rfl ⟨_, _, _, rfl, RowG.le (own_grown HV8.out.slots hg9 hlt9) hwB, RowG.le (own_grown HV8.out.free hg9 hlt9) hwB, RowG.le (own_grown HV8.out.attrs hg9 hlt9) hwB, HZ8.out.2.1.grown hg9 HZ8.out.2.1.size (fun k hk => by cases hk; omega), HV8.out.ne⟩
      · rw [if_neg hin]
        have HA : Hid (dvA b a = b.attrs ++ [a] ∧ dvK b a = b.attrs.length) := Lib.hid ⟨by unfold dvA; rw [if_neg hin], by unfold dvK; rw [if_neg hin]⟩
        obtain ⟨k0, k1, k2, k3, k4⟩ := HG.out.var.blk.cells
        obtain ⟨y0, y1⟩ := cells2 HG.out.at'
        have HBW : Hid (B ≤ wr.heap.size) := Lib.hid (by
          obtain ⟨gs, ds, es, hgB, hgl⟩ := row_own HG.out.var.slots (by intro e; have := HL64.out; rw [e] at this; cases this)
          omega)
        have HLB : Hid (∀ n, n < w.heap.size + 3 → n < B) := Lib.hid (fun n hn => by have := HG.out.base; omega)
        clear hin
        go_upto_region 11 with fail
        go_upto_region 12 with (at_builtin; refine wpList_pushG (w0 := wr) (T := 33) (E := ERt) (enc := encA) Tryz.underlying33 infoRA rfl (by decide) (by decide) (fun _ => rfl) encA_one rfl (.tmp 34) (.tmp 36) rfl B (.slice o3 b.attrs.length d3) b.attrs a wr.heap.size rfl rfl rfl HG.out.var.attrs (by have := HLL.out.2; omega) HBW.out ?_; intro v4 w4 ho4 hb4 hg4 hat4; obtain ⟨o5, d5, rfl⟩ := ho4.slice; have HX4 := Lib.hid (And.intro ho4 (And.intro hb4 hg4)); have k4 := (HG.out.var.blk.keepB hb4 (HLB.out _ (by omega))).cells.2.2.2.2; have f4 := (HG.out.var.blk.keepB hb4 (HLB.out _ (by omega))).froz 4; clear ho4 hb4 hg4 hat4)
        have hlen5 : (b.attrs ++ [a]).length = b.attrs.length + 1 := by simp
        have HV : Hid (GvI w B ⟨b.addr, b.aff, b.sl, b.free, b.attrs ++ [a]⟩ a (.slice o1 b.sl.length d1) (.slice o2 b.free.length d2) (.slice o5 (b.attrs.length + 1) d5) (w4.setCell ⟨w.heap.size, 4, none⟩ (.slice o5 (b.attrs.length + 1) d5))) := Lib.hid (by
          have hv := HG.out
          obtain ⟨r4, hb4, hg4⟩ := HX4.out
          rw [hlen5] at r4
          have hbs := hv.base
          refine ⟨⟨(hv.var.blk.keepB hb4 (HLB.out _ (by omega))).set4 _, own_set (own_grownO hv.var.slots hg4 (fun k hk e => own_ne hv.var.slots hv.var.attrs (by decide) k hk e)) (a := ⟨w.heap.size, 4, none⟩) (by show w.heap.size < B; omega) _, own_set (own_grownO hv.var.free hg4 (fun k hk e => own_ne hv.var.free hv.var.attrs (by decide) k hk e)) (a := ⟨w.heap.size, 4, none⟩) (by show w.heap.size < B; omega) _, own_set r4 (a := ⟨w.heap.size, 4, none⟩) (by show w.heap.size < B; omega) _, hv.var.ne⟩, ?_, (hv.zero.keepB hb4 (HLB.out _ (by omega))).setO (p := ⟨w.heap.size, 4, none⟩) (by show w.heap.size + 2 ≠ w.heap.size; omega) _, (hv.below.trans (hb4.mono (by omega))).setCell (p := ⟨w.heap.size, 4, none⟩) (Nat.le_refl _) _, hv.base⟩
          exact (Below.heap_setCell _ _ _ _ (by show w.heap.size + 1 ≠ w.heap.size; omega)).trans ((hb4.block _ (HLB.out _ (by omega))).trans hv.at'))
        have hkx : b.attrs.length ≤ 1000000 := HLL.out.2
        clear k0 k1 k2 k3 y0 y1
        change Code.wp _ _ _ _ (w4.setCell ⟨w.heap.size, 4, none⟩ (.slice o5 (b.attrs.length + 1) d5))
        generalize w4.setCell ⟨w.heap.size, 4, none⟩ (.slice o5 (b.attrs.length + 1) d5) = w5 at HV ⊢
        clear k4 f4 HG HX4 hlen5
        -- the slot, the free ones, the result
        obtain ⟨gs, ds, es, hgB, hgl⟩ := row_own HV.out.var.slots (by intro e; have := HL64.out; rw [e] at this; cases this)
        obtain ⟨rfl, rfl⟩ : o1 = some ⟨gs, 0, none⟩ ∧ d1 = ds := by cases es; exact ⟨rfl, rfl⟩
        have hib : i < b.sl.length := by rw [HL64.out]; exact HI.out
        obtain ⟨xs0, hxs0⟩ : ∃ x, b.sl[i]? = some x := ⟨_, List.getElem?_eq_getElem hib⟩
        obtain ⟨ga, ega, -, hxa⟩ := HV.out.var.sees.slots.at hxs0
        obtain rfl : ga = ⟨gs, 0, none⟩ := (Option.some.inj ega).symm
        have q0 : w5.cell? ((⟨gs, 0, none⟩ : Addr).add (i * 1)) = some (.int .i64 xs0) := hxa 0 _ rfl
        rw [Nat.mul_one, add0] at q0
        have f0 : w5.frozen? ⟨gs, i, none⟩ = false := World.ownsRow.frozenAt HV.out.var.slots i
        obtain ⟨k0, k1, k2, k3, k4⟩ := HV.out.var.blk.cells
        have bi0 : (0 : Int) ≤ (i : Int) := by omega
        have bi1 : (i : Int) < (b.sl.length : Int) := by omega
        have sk : IntKind.i64.wrap ((b.attrs.length : Int) + 1) = (b.attrs.length : Int) + 1 := IntWalk.i64_in _ (by omega)
        have HGS := Lib.hid hgB
        clear hxa ega hxs0 es hib hgl hgB
        go_upto_region 13 with fail
        have HV6 : Hid (GvI w B ⟨b.addr, b.aff, b.sl.set i ((b.attrs.length : Int) + 1), b.free, b.attrs ++ [a]⟩ a (.slice (some ⟨gs, 0, none⟩) b.sl.length d1) (.slice o2 b.free.length d2) (.slice o5 (b.attrs.length + 1) d5) (w5.setCell ⟨gs, i, none⟩ (.int .i64 ((b.attrs.length : Int) + 1)))) := Lib.hid (by
          have hv := HV.out
          obtain ⟨r1, hg⟩ := RowI1.stored hv.var.slots i ((b.attrs.length : Int) + 1)
          have hbs := hv.base
          have hgs := HGS.out
          refine ⟨⟨hv.var.blk.setO (p := ⟨gs, i, none⟩) (by show w.heap.size ≠ gs; omega) _, r1, own_grownO hv.var.free hg (fun k hk e => hv.var.ne k (by rw [← e]; rfl) hk), own_grownO hv.var.attrs hg (fun k hk e => own_ne hv.var.slots hv.var.attrs (by decide) k (by rw [← e]; rfl) hk), hv.var.ne⟩, ?_, hv.zero.setO (p := ⟨gs, i, none⟩) (by show w.heap.size + 2 ≠ gs; omega) _, hv.below.setCell (p := ⟨gs, i, none⟩) (by show w.heap.size ≤ gs; omega) _, hv.base⟩
          exact (Below.heap_setCell _ _ _ _ (by show w.heap.size + 1 ≠ gs; omega)).trans hv.at')
        change Code.wp _ _ _ _ (w5.setCell ⟨gs, i, none⟩ (.int .i64 ((b.attrs.length : Int) + 1)))
        generalize w5.setCell ⟨gs, i, none⟩ (.int .i64 ((b.attrs.length : Int) + 1)) = w6 at HV6 ⊢
        clear q0 f0 k0 k1 k2 k3 k4 HV
        obtain ⟨k0, k1, k2, k3, k4⟩ := HV6.out.var.blk.cells
        go_wp2_with fail
        clear k0 k1 k2 k3 k4
        go_loopw [10, 48] (fun u j wr => ∃ n : Nat, n ≤ b.free.length ∧ j = .int .i64 n ∧ Hid (∃ o c, u = .slice o ((b.free.take n).filter (fun x => x != (i : Int))).length c) ∧ Hid (RowI1 wr w6.heap.size u ((b.free.take n).filter (fun x => x != (i : Int))) ∧ Below w6.heap.size w6 wr)) (fun _ j _ => b.free.length - (intOf j).toNat)
        case atStart => exact ⟨0, Nat.zero_le _, rfl, Lib.hid ⟨none, 0, rfl⟩, Lib.hid ⟨RowG.nil _ _ _ _ _, Below.refl _ _⟩⟩
        case round =>
          obtain ⟨n, hn, rfl, HF, HI2⟩ := hrel
          obtain ⟨lo, lc, rfl⟩ := HF.out
          have HVr := Lib.hid (HV6.out.later HI2.out.2)
          by_cases hlt : n < b.free.length
          · have hp : b.free[n]? = some (b.free.getD n 0) := by rw [List.getD_eq_getElem?_getD, List.getElem?_eq_getElem hlt]; rfl
            have hts : b.free.take (n + 1) = b.free.take n ++ [b.free.getD n 0] := take_snocI b.free n hlt
            have hll : ((b.free.take n).filter (fun x => x != (i : Int))).length ≤ 1000001 := by
              have h1 := List.length_filter_le (fun x => x != (i : Int)) (b.free.take n)
              rw [List.length_take] at h1
              omega
            generalize b.free.getD n 0 = x at hp hts
            obtain ⟨xa, exa, -, hx⟩ := HVr.out.var.sees.free.at hp
            subst exa
            have q0 : wr.cell? (xa.add (n * 1)) = some (.int .i64 x) := hx 0 _ rfl
            rw [Nat.mul_one] at q0
            have b0 : (0 : Int) ≤ (n : Int) := by omega
            have b1 : (n : Int) < (b.free.length : Int) := by omega
            have dd : decide ((n : Int) < (b.free.length : Int)) = true := by simp; omega
            have s1 : IntKind.i64.wrap ((n : Int) + 1) = (n : Int) + 1 := IntWalk.i64_in _ (by omega)
            have HLT := Lib.hid hlt
            have HTS := Lib.hid hts
            have HSZ6 : Hid (w6.heap.size ≤ wr.heap.size) := Lib.hid HI2.out.2.size
            clear hx hp hlt hts
            by_cases hxi : x = (i : Int)
            · have dx : (x != (i : Int)) = false := by simp [hxi]
              have HFN : Hid ((b.free.take (n + 1)).filter (fun x => x != (i : Int)) = (b.free.take n).filter (fun x => x != (i : Int))) := Lib.hid (by rw [HTS.out, List.filter_append, List.filter_cons_of_neg (by simp [hxi])]; simp)
              clear hxi
              go_wp2_with fail
              go_roundw
              case rel => exact ⟨n + 1, HLT.out, by go_num, by rw [HFN.out]; exact HF, by rw [HFN.out]; exact HI2⟩
              case measure => simp [intOf]; have := HLT.out; omega
            · have dx : (x != (i : Int)) = true := by simp [hxi]
              have HFN : Hid ((b.free.take (n + 1)).filter (fun x => x != (i : Int)) = (b.free.take n).filter (fun x => x != (i : Int)) ++ [x]) := Lib.hid (by rw [HTS.out, List.filter_append, List.filter_cons_of_pos (by simp [hxi])]; rfl)
              clear hxi
              generalize (b.free.take n).filter (fun x => x != (i : Int)) = FL at HF HI2 HFN hll ⊢
              go_wp2_with (at_builtin; refine wpList_pushG (w0 := wr) (T := 32) (E := 3) (enc := encI1) Tryz.underlying32 infoI rfl (by decide) (by decide) (fun _ => rfl) encI1_one rfl (.tmp 55) (.tmp 57) rfl w6.heap.size _ FL x wr.heap.size rfl rfl rfl HI2.out.1 hll HSZ6.out ?_; intro v7 w7 ho7 hb7 hg7 hat7; have HO7 := Lib.hid ho7; have HB7 := Lib.hid (HI2.out.2.trans hb7); clear ho7 hb7 hg7 hat7)
              go_roundw
              case rel => exact ⟨n + 1, HLT.out, by go_num, by rw [HFN.out]; exact Lib.hid HO7.out.slice, by rw [HFN.out]; exact Lib.hid ⟨HO7.out, HB7.out⟩⟩
              case measure => simp [intOf]; have := HLT.out; omega
          · obtain rfl : n = b.free.length := by omega
            have dd : decide ((b.free.length : Int) < (b.free.length : Int)) = false := by simp
            rw [List.take_length] at HI2
            rw [List.take_length]
            have HDV : Hid (∀ v1 v2 v3 X, VarD X B w.heap.size ⟨b.addr, b.aff, b.sl.set i ((b.attrs.length : Int) + 1), b.free.filter (fun x => x != (i : Int)), b.attrs ++ [a]⟩ v1 v2 v3 → VarD X B w.heap.size (dvS b i a) v1 v2 v3) := Lib.hid (fun v1 v2 v3 X hv => by
              have e : dvS b i a = ⟨b.addr, b.aff, b.sl.set i ((b.attrs.length : Int) + 1), b.free.filter (fun x => x != (i : Int)), b.attrs ++ [a]⟩ := by
                show BlkS.mk _ _ _ _ _ = BlkS.mk _ _ _ _ _
                rw [HA.out.1, HA.out.2]
                rfl
              rw [e]
              exact hv)
            generalize b.free.filter (fun x => x != (i : Int)) = FF at HI2 HDV ⊢
            have f3 := HVr.out.var.blk.froz 3
            have k3 := HVr.out.var.blk.cells.2.2.2.1
            clear hlt HF
            go_upto_region 21 with fail
            have HV8 : Hid (VarD (wr.setCell ⟨w.heap.size, 3, none⟩ (.slice lo FF.length lc)) B w.heap.size (dvS b i a) (.slice (some ⟨gs, 0, none⟩) b.sl.length d1) (.slice lo FF.length lc) (.slice o5 (b.attrs.length + 1) d5)) := Lib.hid (HDV.out _ _ _ _ (by
              have hv := HVr.out
              have hbs := hv.base
              have hz6 : B ≤ w6.heap.size := by have := World.ownsRow.lt HV6.out.var.slots gs rfl; omega
              refine ⟨hv.var.blk.set3 _, own_set hv.var.slots (a := ⟨w.heap.size, 3, none⟩) (by show w.heap.size < B; omega) _, own_set (RowG.le HI2.out.1 hz6) (a := ⟨w.heap.size, 3, none⟩) (by show w.heap.size < B; omega) _, own_set hv.var.attrs (a := ⟨w.heap.size, 3, none⟩) (by show w.heap.size < B; omega) _, fun k hk hk2 => ?_⟩
              have h1 := (World.ownsRow.lt HV6.out.var.slots k hk).2
              have h2 := (World.ownsRow.lt HI2.out.1 k hk2).1
              omega))
            have HZ8 : Hid (DocAt (wr.setCell ⟨w.heap.size, 3, none⟩ (.slice lo FF.length lc)) (w.heap.size + 2) 0 ⟨#[]⟩ NS NS NS ∧ Below w.heap.size w (wr.setCell ⟨w.heap.size, 3, none⟩ (.slice lo FF.length lc)) ∧ w.heap.size + 3 ≤ B) := Lib.hid ⟨HVr.out.zero.setO (p := ⟨w.heap.size, 3, none⟩) (by show w.heap.size + 2 ≠ w.heap.size; omega) _, HVr.out.below.setCell (p := ⟨w.heap.size, 3, none⟩) (Nat.le_refl _) _, HVr.out.base⟩
            change Code.wp _ _ _ _ (wr.setCell ⟨w.heap.size, 3, none⟩ (.slice lo FF.length lc))
            generalize wr.setCell ⟨w.heap.size, 3, none⟩ (.slice lo FF.length lc) = w8 at HV8 HZ8 ⊢
            clear f3 k3 HI2 HVr
            have HBL : Hid (DocAt w8 w.heap.size b.addr b.aff (.slice (some ⟨gs, 0, none⟩) b.sl.length d1) (.slice lo FF.length lc) (.slice o5 (b.attrs.length + 1) d5)) := Lib.hid HV8.out.blk
            go_wp2_with (first
              | (refine wpLdD rfl _ rfl rfl HBL.out ?_)
              | (refine wpStD (y := b.addr) (s := b.aff) rfl _ _ rfl rfl rfl HZ8.out.1 rfl rfl rfl ?_; intro w9 hx9 hg9))
            have hlt9 : w.heap.size + 2 < B := by have := HZ8.out.2.2; omega
            have hwB : w.heap.size ≤ B := by have := HZ8.out.2.2; omega
            exact bodyPost_ret (v := docV b.addr b.aff (.slice (some ⟨gs, 0, none⟩) b.sl.length d1) (.slice lo FF.length lc) (.slice o5 (b.attrs.length + 1) d5)) (resB1 rfl rfl (loadVarD hx9)) rfl ⟨_, _, _, rfl, RowG.le (own_grown HV8.out.slots hg9 hlt9) hwB, RowG.le (own_grown HV8.out.free hg9 hlt9) hwB, RowG.le (own_grown HV8.out.attrs hg9 hlt9) hwB, HZ8.out.2.1.grown hg9 HZ8.out.2.1.size (fun k hk => by cases hk; omega), HV8.out.ne⟩
end
section
open Go.RowKit
set_option maxRecDepth 100000 in
set_option maxHeartbeats 8000000 in
theorem docAt_any (b : BlkS) (v1 v2 v3 : Value) (x : Int) (a : PA) (w : World) (h : DocSees w b.sl b.free b.attrs v1 v2 v3) (hl : b.sl.length = 64) (hx : 0 ≤ x) (_ : x < 4294967296) (hfl : b.free.length ≤ 1000000) (hal : b.attrs.length ≤ 1000000) (hnd : b.attrs.Nodup) :
    Calls Tryz.prog 54 #[docV b.addr b.aff v1 v2 v3, .int .u32 x, atV a] w fun e w' => ∃ u1 u2 u3, e = .returned (docV b.addr b.aff u1 u2 u3) ∧ DocOwn w w' (dvS b (x % 64) a) u1 u2 u3 := by
  obtain ⟨a1, c1, rfl⟩ := h.slots.slice
  obtain ⟨a2, c2, rfl⟩ := h.free.slice
  obtain ⟨a3, c3, rfl⟩ := h.attrs.slice
  obtain ⟨hb0, hA, hT, hR, hsz⟩ := three_newB w (docO b.addr b.aff (.slice a1 b.sl.length c1) (.slice a2 b.free.length c2) (.slice a3 b.attrs.length c3)) (rtO a) (docO 0 ⟨#[]⟩ NS NS NS)
  obtain ⟨W, hW⟩ : ∃ W, W = ((w.alloc (docO b.addr b.aff (.slice a1 b.sl.length c1) (.slice a2 b.free.length c2) (.slice a3 b.attrs.length c3))).alloc (rtO a)).alloc (docO 0 ⟨#[]⟩ NS NS NS) := ⟨_, rfl⟩
  rw [← hW] at hb0 hA hT hR hsz
  have HX0 : Hid (DocAt W w.heap.size b.addr b.aff (.slice a1 b.sl.length c1) (.slice a2 b.free.length c2) (.slice a3 b.attrs.length c3)) := Lib.hid hA
  have HZ0 : Hid (DocAt W (w.heap.size + 2) 0 ⟨#[]⟩ NS NS NS) := Lib.hid hR
  have HB0 := Lib.hid hb0
  have HSZ := Lib.hid hsz
  have HW := Lib.hid hW
  obtain ⟨i, hi⟩ : ∃ i : Nat, x % 64 = (i : Int) := ⟨(x % 64).toNat, by omega⟩
  have HGV := Lib.hid (give_any b _ _ _ i a W (h.below hb0) hl (by omega) hfl hal hnd)
  have h1 : x.tmod 64 = (i : Int) := by rw [Int.tmod_eq_emod_of_nonneg hx, hi]
  have h2 : IntKind.u32.wrap (i : Int) = (i : Int) := IntWalk.u32_in _ (by omega)
  have h3 : IntKind.i64.wrap (i : Int) = (i : Int) := IntWalk.i64_in _ (by omega)
  obtain ⟨y0, y1⟩ := cells2 hT
  rw [hi]
  clear hW hb0 hA hT hR hsz h hl hnd hi
  go_enter Tryz.func54, Tryz.ntmps54
  go_upto_region 1 with fail
  change Code.wp _ _ _ _ (((w.alloc (docO b.addr b.aff (.slice a1 b.sl.length c1) (.slice a2 b.free.length c2) (.slice a3 b.attrs.length c3))).alloc (rtO a)).alloc (docO 0 ⟨#[]⟩ NS NS NS))
  rw [← HW.out]
  clear HW
  go_wp2_with (refine wpLdD rfl _ rfl rfl HX0.out ?_)
  refine HGV.out.mono ?_; rintro e w1 ⟨u1, u2, u3, rfl, ho⟩
  obtain ⟨o1, d1, rfl⟩ := ho.slots.slice
  obtain ⟨o2, d2, rfl⟩ := ho.free.slice
  obtain ⟨o3, d3, rfl⟩ := ho.attrs.slice
  have HZ1 := Lib.hid (HZ0.out.below ho.below)
  have HO := Lib.hid ho
  clear ho y0 y1
  go_wp2_with (refine wpStD (y := b.addr) (s := b.aff) rfl _ _ rfl rfl rfl HZ1.out rfl rfl rfl ?_; intro w2 hx2 hg2)
  have hlt : w.heap.size + 2 < W.heap.size := by have := HSZ.out; omega
  have hwB : w.heap.size ≤ W.heap.size := by omega
  exact bodyPost_ret (resB1 rfl rfl (loadVarD hx2)) rfl ⟨_, _, _, rfl, RowG.le (own_grown HO.out.slots hg2 hlt) hwB, RowG.le (own_grown HO.out.free hg2 hlt) hwB, RowG.le (own_grown HO.out.attrs hg2 hlt) hwB, (HB0.out.trans (HO.out.below.mono HB0.out.size)).grown hg2 (Nat.le_trans HB0.out.size HO.out.below.size) (fun k hk => by cases hk; omega), HO.out.ne⟩
end
section
open Go.RowKit
theorem SeesG.keepA {α : Type} {s : Nat} {enc : α → List Value} {w w' : World} {v : Value} {L : List α} (h : SeesG s enc w v L) (hb : L ≠ [] → ∀ d, v.ownBlock = some d → d < w.heap.size → w'.heap[d]? = w.heap[d]?) : SeesG s enc w' v L := by
  by_cases hn : L = []
  · subst hn
    obtain ⟨ao, c, rfl, h1, h2, -⟩ := h
    exact ⟨ao, c, rfl, h1, h2, fun _ _ i p hp => by simp at hp⟩
  · exact h.keep (hb hn)
theorem sees_lt {α : Type} {s : Nat} {enc : α → List Value} {w : World} {v : Value} {L : List α} (he : ∀ p, ∃ u, (enc p)[0]? = some u) (h : SeesG s enc w v L) (hn : L ≠ []) : ∀ d, v.ownBlock = some d → d < w.heap.size := by
  obtain ⟨ao, c, rfl, -, -, h3⟩ := h
  intro d hd
  obtain ⟨p, L', rfl⟩ := List.exists_cons_of_ne_nil hn
  cases ao with
  | none => cases hd
  | some a =>
    obtain rfl : a.block = d := Option.some.inj hd
    obtain ⟨u, hu⟩ := he p
    have := cell_lt8 (h3 a rfl 0 p rfl 0 u hu)
    rwa [add_block, add_block] at this
/-- A block's lists lie elsewhere than in block g. -/
def ApD (g : Nat) (b : BlkS) (v1 v2 v3 : Value) : Prop := (b.sl ≠ [] → v1.ownBlock ≠ some g) ∧ (b.free ≠ [] → v2.ownBlock ≠ some g) ∧ (b.attrs ≠ [] → v3.ownBlock ≠ some g)
theorem encI_has (x : Int) : ∃ u, (encI1 x)[0]? = some u := ⟨_, rfl⟩
theorem encA_has (p : PA) : ∃ u, (encA p)[0]? = some u := ⟨_, rfl⟩
theorem DocSees.ap {w : World} {b : BlkS} {v1 v2 v3 : Value} (h : DocSees w b.sl b.free b.attrs v1 v2 v3) {g : Nat} (hg : w.heap.size ≤ g) : ApD g b v1 v2 v3 :=
  ⟨fun hn e => by have := sees_lt encI_has h.slots hn g e; omega, fun hn e => by have := sees_lt encI_has h.free hn g e; omega, fun hn e => by have := sees_lt encA_has h.attrs hn g e; omega⟩
theorem DocSees.grownA {X Y : World} {b : BlkS} {v1 v2 v3 : Value} {g : Nat} (h : DocSees X b.sl b.free b.attrs v1 v2 v3) (ha : ApD g b v1 v2 v3) (hg : X.grownBy Y (some g)) : DocSees Y b.sl b.free b.attrs v1 v2 v3 :=
  ⟨h.slots.keepA (fun hn d hd hl => hg.block d hl (fun e => ha.1 hn (by rw [hd, Option.some.inj e]))), h.free.keepA (fun hn d hd hl => hg.block d hl (fun e => ha.2.1 hn (by rw [hd, Option.some.inj e]))), h.attrs.keepA (fun hn d hd hl => hg.block d hl (fun e => ha.2.2 hn (by rw [hd, Option.some.inj e])))⟩
theorem DocOwn.ap {w w' : World} {b : BlkS} {v1 v2 v3 : Value} (h : DocOwn w w' b v1 v2 v3) {g : Nat} (hg : g < w.heap.size) : ApD g b v1 v2 v3 :=
  ⟨fun _ e => by have := (World.ownsRow.lt h.slots g e).1; omega, fun _ e => by have := (World.ownsRow.lt h.free g e).1; omega, fun _ e => by have := (World.ownsRow.lt h.attrs g e).1; omega⟩
/-- While some are given: the block's variable, the attribute's, the result's, what is told. -/
structure AsI (w : World) (b : BlkS) (i1 i2 i3 : Value) (c : BlkS) (a : PA) (L : List Int) (u v1 v2 v3 : Value) (X : World) : Prop where
  blk : DocAt X w.heap.size c.addr c.aff v1 v2 v3
  sees : DocSees X c.sl c.free c.attrs v1 v2 v3
  ap : ∀ g, g < w.heap.size + 3 → ApD g b i1 i2 i3 → ApD g c v1 v2 v3
  at' : X.heap[w.heap.size + 1]? = some (rtO a)
  zero : DocAt X (w.heap.size + 2) 0 ⟨#[]⟩ NS NS NS
  below : Below w.heap.size w X
  told : RowU1 X (w.heap.size + 3) u L
  size : w.heap.size + 3 ≤ X.heap.size
set_option maxRecDepth 100000 in
set_option maxHeartbeats 16000000 in
theorem docAssign_any (b : BlkS) (v1 v2 v3 : Value) (n : Int) (a : PA) (w : World) (h : DocSees w b.sl b.free b.attrs v1 v2 v3) (hw : BWf b) (hr : rightB b = true) (hm : mayP a = true) (hn : 0 ≤ n) :
    Calls Tryz.prog 18 #[docV b.addr b.aff v1 v2 v3, .int .i64 n, atV a] w fun e w' => ∃ u1 u2 u3 tv, e = .returned (.tuple #[docV b.addr b.aff u1 u2 u3, tv]) ∧ DocSees w' (givS b (b.free.take n.toNat) a).sl (givS b (b.free.take n.toNat) a).free (givS b (b.free.take n.toNat) a).attrs u1 u2 u3 ∧ RowU1 w' w.heap.size tv (adrs b (b.free.take n.toNat)) ∧ Below w.heap.size w w' ∧ ∀ g, g < w.heap.size → ApD g b v1 v2 v3 → ApD g (givS b (b.free.take n.toNat) a) u1 u2 u3 := by
  obtain ⟨a1, c1, rfl⟩ := h.slots.slice
  obtain ⟨a2, c2, rfl⟩ := h.free.slice
  obtain ⟨a3, c3, rfl⟩ := h.attrs.slice
  obtain ⟨hb0, hA, hT, hR, hsz⟩ := three_newB w (docO b.addr b.aff (.slice a1 b.sl.length c1) (.slice a2 b.free.length c2) (.slice a3 b.attrs.length c3)) (rtO a) (docO 0 ⟨#[]⟩ NS NS NS)
  obtain ⟨W, hW⟩ : ∃ W, W = ((w.alloc (docO b.addr b.aff (.slice a1 b.sl.length c1) (.slice a2 b.free.length c2) (.slice a3 b.attrs.length c3))).alloc (rtO a)).alloc (docO 0 ⟨#[]⟩ NS NS NS) := ⟨_, rfl⟩
  rw [← hW] at hb0 hA hT hR hsz
  obtain ⟨K, hK⟩ : ∃ K : Nat, K = min n.toNat b.free.length := ⟨_, rfl⟩
  have hKl : K ≤ b.free.length := by omega
  have htk : b.free.take n.toNat = b.free.take K := by
    rw [hK]
    rcases Nat.le_total n.toNat b.free.length with h | h
    · rw [Nat.min_eq_left h]
    · rw [Nat.min_eq_right h, List.take_of_length_le h, List.take_of_length_le (Nat.le_refl _)]
  rw [htk]
  have HI0 : Hid (AsI w b (.slice a1 b.sl.length c1) (.slice a2 b.free.length c2) (.slice a3 b.attrs.length c3) (givS b (b.free.take 0) a) a (adrs b (b.free.take 0)) NS (.slice a1 b.sl.length c1) (.slice a2 b.free.length c2) (.slice a3 b.attrs.length c3) W) := Lib.hid (by
    rw [List.take_zero, givS_nil hw.2.1 hr]
    exact ⟨hA, h.below hb0, fun _ _ h => h, hT, hR, hb0, RowG.nil _ _ _ _ _, by omega⟩)
  have HAP := Lib.hid (fun (g : Nat) (hg : w.heap.size ≤ g) => h.ap hg)
  have HW := Lib.hid hW
  have HG := Lib.hid (giv_all hw hr hm)
  have HFR := Lib.hid (fun (i : Int) (hi : i ∈ b.free) => free_slot hw.2.1 hr hi)
  have HST := Lib.hid (fun (l : List Int) (i : Int) (hi : 0 ≤ i ∧ i < 64) => dv_step hw.2.1 hr a l i hi)
  have hfl64 := (right_free hr).2.2
  have hba := hw.1
  have h64 := ((right_iff b hw.2.1).1 hr).1
  have HAD := Lib.hid (And.intro hba h64)
  have HKK : Hid (K ≤ b.free.length ∧ (K : Int) ≤ n ∧ ((K : Int) < n → K = b.free.length)) := Lib.hid (by omega)
  clear hW hb0 hA hT hR hsz h hw hr htk hK hba h64
  go_enter Tryz.func18, Tryz.ntmps18
  go_upto_region 1 with fail
  change Code.wp _ _ _ _ (((w.alloc (docO b.addr b.aff (.slice a1 b.sl.length c1) (.slice a2 b.free.length c2) (.slice a3 b.attrs.length c3))).alloc (rtO a)).alloc (docO 0 ⟨#[]⟩ NS NS NS))
  rw [← HW.out]
  clear HW
  go_wp2_with fail
  go_loopw [8, 9] (fun u j wr => ∃ k : Nat, k ≤ K ∧ j = .int .i64 k ∧ Hid (∃ o c, u = .slice o (adrs b (b.free.take k)).length c) ∧ Hid (∃ v1 v2 v3, AsI w b (.slice a1 b.sl.length c1) (.slice a2 b.free.length c2) (.slice a3 b.attrs.length c3) (givS b (b.free.take k) a) a (adrs b (b.free.take k)) u v1 v2 v3 wr)) (fun _ j _ => K - (intOf j).toNat)
  case atStart => exact ⟨0, Nat.zero_le _, rfl, Lib.hid ⟨none, 0, rfl⟩, Lib.hid ⟨_, _, _, HI0.out⟩⟩
  case round =>
    clear HI0
    obtain ⟨k, hk, rfl, HF, HE⟩ := hrel
    obtain ⟨uo, uc, rfl⟩ := HF.out
    obtain ⟨v1, v2, v3, hI⟩ := HE.out
    obtain ⟨s1, e1, rfl⟩ := hI.sees.slots.slice
    obtain ⟨s2, e2, rfl⟩ := hI.sees.free.slice
    obtain ⟨s3, e3, rfl⟩ := hI.sees.attrs.slice
    obtain ⟨g1, g2, g3, g4⟩ := HG.out k (by have := HKK.out.1; omega)
    obtain ⟨k0, k1, k2, k3, k4⟩ := hI.blk.cells
    have HII := Lib.hid hI
    by_cases hlt : k < K
    · have dn : decide ((k : Int) < n) = true := by have := HKK.out.2.1; simp; omega
      have hfk : (givS b (b.free.take k) a).free.length = b.free.length - k := by rw [g3, List.length_drop]
      have dl : decide (0 < ((givS b (b.free.take k) a).free.length : Int)) = true := by have := HKK.out.1; simp; omega
      obtain ⟨i, hi⟩ : ∃ i, b.free[k]? = some i := ⟨_, List.getElem?_eq_getElem (by have := HKK.out.1; omega)⟩
      have hf0 : (givS b (b.free.take k) a).free[0]? = some i := by rw [g3, List.getElem?_drop]; simpa using hi
      obtain ⟨i0, i1, -⟩ := HFR.out i (List.mem_of_getElem? hi)
      have hts : b.free.take (k + 1) = b.free.take k ++ [i] := by rw [List.take_add_one, hi]; rfl
      have HSTP : Hid (dvS (givS b (b.free.take k) a) i a = givS b (b.free.take (k + 1)) a) := Lib.hid (by rw [hts]; exact HST.out _ i ⟨i0, i1⟩)
      have HADN : Hid (adrs b (b.free.take (k + 1)) = adrs b (b.free.take k) ++ [(givS b (b.free.take k) a).addr + i]) := Lib.hid (by rw [hts, adrs_app]; rfl)
      have HLO : Hid ((adrs b (b.free.take k)).length ≤ 64) := Lib.hid (by rw [adrs_len, List.length_take]; omega)
      obtain ⟨j, rfl⟩ := Int.eq_ofNat_of_zero_le i0
      obtain ⟨xa, exa, -, hx⟩ := hI.sees.free.at hf0
      subst exa
      have q0 : wr.cell? (xa.add (0 * 1)) = some (.int .i64 (j : Int)) := hx 0 _ rfl
      have q0' : wr.cell? xa = some (.int .i64 (j : Int)) := q0
      have bz : (0 : Int) < ((givS b (b.free.take k) a).free.length : Int) := of_decide_eq_true dl
      have hgv := give_any (givS b (b.free.take k) a) _ _ _ j a wr hI.sees g2.2.1 (by omega) (by omega) (by have := ((right_iff _ g2.2.1).1 g1).2.2.1; omega) (right_loose g2.2.1 g1).2.2.2.2.1
      have HGV := Lib.hid hgv
      have HCA : Hid ((givS b (b.free.take k) a).addr = b.addr) := Lib.hid rfl
      have HCF : Hid ((givS b (b.free.take k) a).aff = b.aff) := Lib.hid rfl
      have HG1 := Lib.hid (And.intro g1 (And.intro g2 i1))
      obtain ⟨y0, y1⟩ := cells2 hI.at'
      have HLT := Lib.hid hlt
      generalize givS b (b.free.take k) a = c at *
      generalize adrs b (b.free.take k) = LA at *
      have sa : IntKind.u32.wrap (j : Int) = (j : Int) := IntWalk.u32_in _ (by omega)
      have sb : IntKind.u32.wrap (c.addr + (j : Int)) = c.addr + (j : Int) := IntWalk.u32_in _ (by rw [HCA.out]; have := HAD.out; omega)
      clear hI hx hf0 hi hts hfk g1 g2 g3 g4 hgv hlt q0 HE HF
      go_upto_region 6 with fail
      go_upto_region 7 with (first
        | (refine wpLdD rfl _ rfl rfl HII.out.blk ?_)
        | (go_at_call 50; refine HGV.out.mono ?_; rintro e w5 ⟨u1, u2, u3, rfl, ho⟩; obtain ⟨p1, r1, rfl⟩ := ho.slots.slice; obtain ⟨p2, r2, rfl⟩ := ho.free.slice; obtain ⟨p3, r3, rfl⟩ := ho.attrs.slice; have HO := Lib.hid ho; have HX5 := Lib.hid (HII.out.blk.below ho.below); clear ho)
        | (refine wpStD (y := c.addr) (s := c.aff) rfl _ _ rfl rfl rfl HX5.out rfl rfl rfl ?_; intro w6 hx6 hg6; have z0 := hx6.cells.1; have HX6 := Lib.hid hx6; have HT6 := Lib.hid (own_grown (own_keep HII.out.told HO.out.below) hg6 (by omega)); have HS6 := Lib.hid (Nat.le_trans HII.out.size (Nat.le_trans HO.out.below.size hg6.size)); have HG6 := Lib.hid hg6; clear hx6 hg6))
      go_wp2_with (at_builtin; refine wpList_pushG (w0 := w6) (T := 39) (E := 22) (enc := encU1) Tryz.underlying39 infoU rfl (by decide) (by decide) (fun _ => rfl) encU1_one rfl (.tmp 30) (.tmp 36) rfl (w.heap.size + 3) (.slice uo LA.length uc) LA (c.addr + (j : Int)) w6.heap.size rfl rfl rfl HT6.out (by have := HLO.out; omega) HS6.out ?_; intro v7 w7 ho7 hb7 hg7 hat7; obtain ⟨o7, d7, rfl⟩ := ho7.slice; have H7 := Lib.hid (And.intro ho7 (And.intro hb7 hg7)); clear ho7 hb7 hg7 hat7)
      go_roundw
      case rel =>
        obtain ⟨r7, hb7, hg7⟩ := H7.out
        have hl1 : (LA ++ [c.addr + (j : Int)]).length = LA.length + 1 := by simp
        refine ⟨k + 1, by have := HLT.out; omega, by go_num, by rw [HADN.out, hl1]; exact Lib.hid ⟨_, _, rfl⟩, ?_⟩
        rw [HADN.out]
        rw [hl1] at r7
        have hx7 := HX6.out.keepB hb7 (show w.heap.size < w.heap.size + 3 by omega)
        rw [HSTP.out] at HO hx7
        rw [HCA.out, HCF.out] at hx7
        have hS : wr.heap.size ≤ w6.heap.size := Nat.le_trans HO.out.below.size HG6.out.size
        have hszr := HII.out.size
        have hgr : w.heap.size < wr.heap.size := by omega
        have hT := World.ownsRow.lt HII.out.told
        have q1 := own_grownO (own_grown HO.out.slots HG6.out hgr) hg7 (fun d hd e => by have h1 := (World.ownsRow.lt HO.out.slots d hd).1; have h2 := (hT d e).2; omega)
        have q2 := own_grownO (own_grown HO.out.free HG6.out hgr) hg7 (fun d hd e => by have h1 := (World.ownsRow.lt HO.out.free d hd).1; have h2 := (hT d e).2; omega)
        have q3 := own_grownO (own_grown HO.out.attrs HG6.out hgr) hg7 (fun d hd e => by have h1 := (World.ownsRow.lt HO.out.attrs d hd).1; have h2 := (hT d e).2; omega)
        have keep : ∀ d, d < w.heap.size + 3 → d ≠ w.heap.size → w7.heap[d]? = wr.heap[d]? := fun d hd hd2 => (hb7.block d hd).trans ((HG6.out.block d (by have := HO.out.below.size; omega) (fun e => hd2 (Option.some.inj e))).trans (HO.out.below.block d (by omega)))
        exact Lib.hid ⟨_, _, _, hx7, ⟨RowG.sees q1 (fun _ => rfl), RowG.sees q2 (fun _ => rfl), RowG.sees q3 (fun _ => rfl)⟩, fun g hg _ => HO.out.ap (by omega), (keep _ (by omega) (by omega)).trans HII.out.at', (keep _ (by omega) (by omega)).trans HII.out.zero, ((HII.out.below.trans (HO.out.below.mono HII.out.below.size)).grown HG6.out (Nat.le_trans HII.out.below.size HO.out.below.size) (fun d hd => by cases hd; omega)).trans (hb7.mono (by omega)), r7, Nat.le_trans HS6.out hb7.size⟩
      case measure => simp [intOf]; have := HLT.out; omega
    · obtain rfl : k = K := by omega
      have hfk : (givS b (b.free.take k) a).free.length = b.free.length - k := by rw [g3, List.length_drop]
      by_cases hkn : (k : Int) < n
      · have dn : decide ((k : Int) < n) = true := by simp; omega
        have dl : decide (0 < (givS b (b.free.take k) a).free.length) = false := decide_eq_false (by rw [hfk]; have := HKK.out.2.2 hkn; omega)
        clear g1 g2 g3 g4 hfk
        go_wp2_with (first
          | (refine wpLdD rfl _ rfl rfl HII.out.blk ?_)
          | (refine wpStD (y := b.addr) (s := b.aff) rfl _ _ rfl rfl rfl HII.out.zero rfl rfl rfl ?_; intro w9 hx9 hg9))
        have hsz := HII.out.size
        exact bodyPost_ret (resB2 rfl rfl (loadVarD hx9)) rfl ⟨_, _, _, _, rfl, HII.out.sees.grownA (HII.out.ap _ (by omega) (HAP.out _ (by omega))) hg9, RowG.le (own_grown HII.out.told hg9 (by omega)) (by omega), HII.out.below.grown hg9 (by omega) (fun d hd => by cases hd; omega), fun g hg h => HII.out.ap g (by omega) h⟩
      · have dn : decide ((k : Int) < n) = false := by simp; omega
        clear g1 g2 g3 g4 hfk
        go_wp2_with (first
          | (refine wpLdD rfl _ rfl rfl HII.out.blk ?_)
          | (refine wpStD (y := b.addr) (s := b.aff) rfl _ _ rfl rfl rfl HII.out.zero rfl rfl rfl ?_; intro w9 hx9 hg9))
        have hsz := HII.out.size
        exact bodyPost_ret (resB2 rfl rfl (loadVarD hx9)) rfl ⟨_, _, _, _, rfl, HII.out.sees.grownA (HII.out.ap _ (by omega) (HAP.out _ (by omega))) hg9, RowG.le (own_grown HII.out.told hg9 (by omega)) (by omega), HII.out.below.grown hg9 (by omega) (fun d hd => by cases hd; omega), fun g hg h => HII.out.ap g (by omega) h⟩
end
end Go.Proofs.YtgodmnpcedfdcaaGreat
