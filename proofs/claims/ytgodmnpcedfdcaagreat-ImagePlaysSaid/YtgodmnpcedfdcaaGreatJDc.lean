/- Joined: BdH BdI BdJ BdK. -/
import Derived.Test.YtgodmnpcedfdcaaGreatJDb
import Derived.Test.YtgodmnpcedfdcaaGreatJDa
namespace Go.Proofs.YtgodmnpcedfdcaaGreat
section
open Go.RowKit
theorem frozenS {w : World} {B g n c : Nat} {xs : List Int} (h : RowI1 w B (.slice (some ⟨g, 0, none⟩) n c) xs) (j : Nat) : w.frozen? ⟨g, j, none⟩ = false := by
  have hn : n = xs.length := by
    obtain ⟨ao, c', e⟩ := h.slice
    cases e
    rfl
  subst hn
  exact World.ownsRow.frozenAt h j
theorem own_prefix {w : World} {B : Nat} {E : TypeId} {s g n c k : Nat} {xs : List Value} (h : w.ownsRow B E s (.slice (some ⟨g, 0, none⟩) n c) n xs) (hk : k ≤ n) : w.ownsRow B E s (.slice (some ⟨g, 0, none⟩) k c) k (xs.take (k * s)) := by
  obtain ⟨h1, h2⟩ := h
  have hks : k * s ≤ n * s := Nat.mul_le_mul_right s hk
  refine ⟨by rw [List.length_take, h1]; omega, Or.inr ?_⟩
  rcases h2 with ⟨e, _⟩ | ⟨g', cap, cur, e, hb, hh, hn, hc, hsz, ht⟩
  · cases e
  · obtain ⟨e1, e2⟩ : g = g' ∧ c = cap := by cases e; exact ⟨rfl, rfl⟩
    subst e1 e2
    exact ⟨g, c, cur, rfl, hb, hh, by omega, hc, hsz, by rw [← ht, List.take_take, Nat.min_eq_left hks]⟩
theorem wp_dropA {w0 : World} {o : Oper} {a : Act} {K : Act → World → Prop} {Q : Exit → Act → World → Prop} (s x : Operand)
    (ho : o.op = .call { callee := .builtin .append, args := #[s, x], argTypes := #[33, 33] }) (B g m c c2 : Nat) (L : List PA) (k : Nat) (hk : k < L.length) (hm : m = L.length - (k + 1))
    (ad : Addr) (had : m ≠ 0 → ad = ⟨g, (k + 1) * 2, none⟩)
    (hs : a.eval s = .slice (some ⟨g, 0, none⟩) k c) (hx : a.eval x = .slice (some ad) m c2)
    (hrow : RowG ERt 2 encA w0 B (.slice (some ⟨g, 0, none⟩) L.length c) L) (hlen : L.length ≤ 1000000) (hB : B ≤ w0.heap.size)
    (h : ∀ v' w', RowG ERt 2 encA w' B v' (L.take k ++ L.drop (k + 1)) → w0.grownBy w' (some g) → K (a.put o.dst v') w') : o.wp Tryz.prog a w0 K Q := by
  subst hm
  obtain ⟨i0, hi, hz0, hz1, hz2⟩ := info_parts infoRA
  have he : ∀ p : PA, (encA p).length = 2 := fun _ => rfl
  have hown := own_prefix hrow (Nat.le_of_lt hk)
  have e1 : ∀ n, L.flatMap encA = (L.take n).flatMap encA ++ (L.drop n).flatMap encA := fun n => by rw [← List.flatMap_append, List.take_append_drop]
  have l1 : ∀ n, n ≤ L.length → ((L.take n).flatMap encA).length = n * 2 := fun n hn => by rw [flat_lenG he, List.length_take, Nat.min_eq_left hn]
  have hf : (L.flatMap encA).take (k * 2) = (L.take k).flatMap encA := by
    rw [e1 k]
    exact List.take_left' (l1 k (Nat.le_of_lt hk))
  have hd : ∀ j, ((L.drop (k + 1)).flatMap encA)[j]? = (L.flatMap encA)[(k + 1) * 2 + j]? := fun j => by
    rw [e1 (k + 1), List.getElem?_append_right (by rw [l1 _ hk]; omega), l1 _ hk, Nat.add_sub_cancel_left]
  have hsee := sees_flatG he (by decide) (RowG.sees hrow (fun _ => rfl))
  refine wp_append_own _ s x _ ho B ERt i0 _ 2 _ Tryz.underlying33 hi hz0 hz1 hz2 rfl (by decide) _ k _ hs hown ad _ c2 ((L.drop (k + 1)).flatMap encA) hx ?_ (fun j u hj => ?_) (flat_oneG encA_one _) (by unfold maxLen; omega) (by omega) hB ?_
  · rw [flat_lenG he, List.length_drop]
  · have hne : L.length - (k + 1) ≠ 0 := fun e => by
      have h0 : L.drop (k + 1) = [] := List.eq_nil_of_length_eq_zero (by rw [List.length_drop]; exact e)
      rw [h0] at hj
      cases hj
    rw [had hne]
    rw [hd] at hj
    have h2 := hsee _ _ hj
    have e3 : ((⟨g, 0, none⟩ : Addr).add ((k + 1) * 2 + j)) = (⟨g, (k + 1) * 2, none⟩ : Addr).add j := by simp [Addr.add]
    rw [e3] at h2
    exact h2
  · intro v' w' ho' hg' _
    refine h v' w' ?_ hg'
    show World.ownsRow _ _ _ _ _ _ _
    rw [hf] at ho'
    rw [List.flatMap_append, List.length_append, List.length_take, List.length_drop, Nat.min_eq_left (Nat.le_of_lt hk)]
    exact ho'
theorem set_self {l : List Int} {n : Nat} {x : Int} (h : l[n]? = some x) : l.set n x = l := by
  obtain ⟨hn, hx⟩ := List.getElem?_eq_some_iff.1 h
  rw [← hx]
  exact List.set_getElem_self hn
def stepD (k : Nat) (sl : List Int) (n : Nat) : List Int := (sl.take n).map (fun s => if s > (k : Int) + 1 then s - 1 else s) ++ sl.drop n
theorem stepD_full (k : Nat) (sl : List Int) : stepD k sl sl.length = sl.map (fun s => if s > (k : Int) + 1 then s - 1 else s) := by simp [stepD]
theorem stepD_at (k : Nat) {sl : List Int} {n : Nat} (h : n < sl.length) : (stepD k sl n)[n]? = sl[n]? := by
  unfold stepD
  rw [List.getElem?_append_right (by simp; omega), List.getElem?_drop]
  congr 1
  simp
  omega
theorem stepD_step (k : Nat) {sl : List Int} {n : Nat} {x : Int} (h : sl[n]? = some x) : stepD k sl (n + 1) = (stepD k sl n).set n (if x > (k : Int) + 1 then x - 1 else x) := by
  obtain ⟨hn, hx⟩ := List.getElem?_eq_some_iff.1 h
  have e1 : sl.drop n = x :: sl.drop (n + 1) := by rw [List.drop_eq_getElem_cons hn, hx]
  have e2 : sl.take (n + 1) = sl.take n ++ [x] := by rw [List.take_add_one, h]; rfl
  have e3 : ((sl.take n).map (fun s => if s > (k : Int) + 1 then s - 1 else s)).length = n := by simp; omega
  unfold stepD
  rw [e1, e2, List.map_append, List.set_append_right _ _ (by rw [e3]; exact Nat.le_refl _), e3, Nat.sub_self]
  simp
/-- While one is dropped: the block's variable, the result's. -/
structure DpI (w : World) (B : Nat) (b : BlkS) (v1 v2 v3 : Value) (X : World) : Prop where
  var : VarD X B w.heap.size b v1 v2 v3
  zero : DocAt X (w.heap.size + 1) 0 ⟨#[]⟩ NS NS NS
  below : Below w.heap.size w X
  base : w.heap.size + 2 ≤ B
  size : B ≤ X.heap.size
theorem DpI.later {w : World} {B : Nat} {b : BlkS} {v1 v2 v3 : Value} {X Y : World} (h : DpI w B b v1 v2 v3 X) (hb : Below X.heap.size X Y) : DpI w B b v1 v2 v3 Y :=
  ⟨h.var.below hb, h.zero.below hb, h.below.trans (hb.mono h.below.size), h.base, Nat.le_trans h.size hb.size⟩
set_option maxRecDepth 100000 in
set_option maxHeartbeats 8000000 in
theorem docDrop_any (b : BlkS) (v1 v2 v3 : Value) (k : Nat) (w : World) (h : DocSees w b.sl b.free b.attrs v1 v2 v3) (hl : b.sl.length = 64) (hk : k < b.attrs.length) (hfl : b.free.length ≤ 1000000) (hal : b.attrs.length ≤ 1000000) (hok : ∀ x ∈ b.sl, 0 ≤ x ∧ x < 256) :
    Calls Tryz.prog 58 #[docV b.addr b.aff v1 v2 v3, .int .i64 k] w fun e w' => ∃ u1 u2 u3, e = .returned (docV b.addr b.aff u1 u2 u3) ∧ DocOwn w w' (dropS b k) u1 u2 u3 := by
  obtain ⟨a1, c1, rfl⟩ := h.slots.slice
  obtain ⟨a2, c2, rfl⟩ := h.free.slice
  obtain ⟨a3, c3, rfl⟩ := h.attrs.slice
  obtain ⟨hb0, hA, hR, hsz⟩ := two_newB w (docO b.addr b.aff (.slice a1 b.sl.length c1) (.slice a2 b.free.length c2) (.slice a3 b.attrs.length c3)) (docO 0 ⟨#[]⟩ NS NS NS)
  obtain ⟨W, hW⟩ : ∃ W, W = (w.alloc (docO b.addr b.aff (.slice a1 b.sl.length c1) (.slice a2 b.free.length c2) (.slice a3 b.attrs.length c3))).alloc (docO 0 ⟨#[]⟩ NS NS NS) := ⟨_, rfl⟩
  rw [← hW] at hb0 hA hR hsz
  have HX0 : Hid (DocAt W w.heap.size b.addr b.aff (.slice a1 b.sl.length c1) (.slice a2 b.free.length c2) (.slice a3 b.attrs.length c3)) := Lib.hid hA
  have HZ0 : Hid (DocAt W (w.heap.size + 1) 0 ⟨#[]⟩ NS NS NS) := Lib.hid hR
  have HB0 := Lib.hid hb0
  have HSZ := Lib.hid hsz
  have HW := Lib.hid hW
  have HCP := Lib.hid (copyE_any b.addr b.aff _ _ _ b.sl b.free b.attrs W (h.below hb0) (by omega) hfl hal)
  have HL64 := Lib.hid hl
  have HK := Lib.hid hk
  have HLL := Lib.hid (And.intro hfl hal)
  have HOK := Lib.hid hok
  clear hW hb0 hA hR hsz h hl hk hok
  go_enter Tryz.func58, Tryz.ntmps58
  go_upto_region 1 with fail
  change Code.wp _ _ _ _ ((w.alloc (docO b.addr b.aff (.slice a1 b.sl.length c1) (.slice a2 b.free.length c2) (.slice a3 b.attrs.length c3))).alloc (docO 0 ⟨#[]⟩ NS NS NS))
  rw [← HW.out]
  clear HW
  go_wp2_with (refine wpLdD rfl _ rfl rfl HX0.out ?_)
  refine HCP.out.mono ?_; rintro e w1 ⟨u1, u2, u3, rfl, hr1, hr2, hr3, hb1, hne⟩
  obtain ⟨o1, d1, rfl⟩ := hr1.slice
  obtain ⟨o2, d2, rfl⟩ := hr2.slice
  obtain ⟨o3, d3, rfl⟩ := hr3.slice
  have HX1 := Lib.hid (HX0.out.below hb1)
  have HR := Lib.hid (And.intro hr1 (And.intro hr2 (And.intro hr3 (And.intro hb1 hne))))
  clear hr1 hr2 hr3 hb1 hne HCP
  go_upto_region 2 with (refine wpStD (y := b.addr) (s := b.aff) rfl _ _ rfl rfl rfl HX1.out rfl rfl rfl ?_; intro w2 hx2 hg2)
  have HG2 : Hid (DpI w W.heap.size b (.slice o1 b.sl.length d1) (.slice o2 b.free.length d2) (.slice o3 b.attrs.length d3) w2.drew) := Lib.hid (by
    obtain ⟨r1, r2, r3, hb1, hne⟩ := HR.out
    have hlt : w.heap.size < W.heap.size := by have := HSZ.out; omega
    have hI : DpI w W.heap.size b (.slice o1 b.sl.length d1) (.slice o2 b.free.length d2) (.slice o3 b.attrs.length d3) w2 := by
      refine ⟨⟨hx2, own_grown r1 hg2 hlt, own_grown r2 hg2 hlt, own_grown r3 hg2 hlt, hne⟩, ?_, ?_, by have := HSZ.out; omega, Nat.le_trans hb1.size hg2.size⟩
      · exact (hg2.block _ (by have := hb1.size; have := HSZ.out; omega) (fun e => by have := Option.some.inj e; omega)).trans ((HZ0.out.below hb1))
      · exact (HB0.out.trans (hb1.mono HB0.out.size)).grown hg2 (Nat.le_trans HB0.out.size hb1.size) (fun k hk => by cases hk; exact Nat.le_refl _)
    exact hI.later ⟨rfl, rfl, rfl, Nat.le_refl _, fun _ _ => rfl⟩)
  clear hx2 hg2 HR HX1 HX0 HZ0 HB0
  generalize hBB : W.heap.size = B at HG2
  clear hBB
  obtain ⟨ga, da, ea, -, -⟩ := row_own HG2.out.var.attrs (by intro e; have := HK.out; rw [e] at this; exact absurd this (Nat.not_lt_zero _))
  obtain ⟨rfl, rfl⟩ : o3 = some ⟨ga, 0, none⟩ ∧ d3 = da := by cases ea; exact ⟨rfl, rfl⟩
  have hcap : b.attrs.length ≤ d3 := by
    obtain ⟨h1, h2⟩ := HG2.out.var.attrs
    rcases h2 with ⟨e, _⟩ | ⟨g', cap, cur, e, hb, hh, hn, hc, hsz, ht⟩
    · cases e
    · cases e; exact hn
  have HCAP := Lib.hid hcap
  have k4 := HG2.out.var.blk.cells.2.2.2.2
  have b0 : (0 : Int) ≤ (k : Int) := by omega
  have b1 : (k : Int) ≤ (d3 : Int) := by have := HK.out; omega
  have b2 : (0 : Int) ≤ (k : Int) + 1 := by omega
  have b3 : (k : Int) + 1 ≤ (b.attrs.length : Int) := by have := HK.out; omega
  have b4 : (b.attrs.length : Int) ≤ (d3 : Int) := by omega
  have s1 : IntKind.i64.wrap ((k : Int) + 1) = (k : Int) + 1 := IntWalk.i64_in _ (by have := HK.out; have := HLL.out.2; omega)
  obtain ⟨ad, had, hadm⟩ : ∃ ad : Addr, (if d3 = k + 1 then some (⟨ga, 0, none⟩ : Addr) else some ⟨ga, (k + 1) * 2, none⟩) = some ad ∧ (b.attrs.length - (k + 1) ≠ 0 → ad = ⟨ga, (k + 1) * 2, none⟩) := by
    by_cases he : d3 = k + 1
    · exact ⟨⟨ga, 0, none⟩, by rw [if_pos he], fun hh => absurd hh (by omega)⟩
    · exact ⟨⟨ga, (k + 1) * 2, none⟩, by rw [if_neg he], fun _ => rfl⟩
  have HAD := Lib.hid (And.intro had hadm)
  obtain ⟨AT, hAT⟩ : ∃ AT, AT = b.attrs.take k ++ b.attrs.drop (k + 1) := ⟨_, rfl⟩
  have HAT := Lib.hid hAT
  obtain ⟨gs, ds, es, hgB, hgl⟩ := row_own HG2.out.var.slots (by intro e; have := HL64.out; rw [e] at this; cases this)
  obtain ⟨rfl, rfl⟩ : o1 = some ⟨gs, 0, none⟩ ∧ d1 = ds := by cases es; exact ⟨rfl, rfl⟩
  have HGS := Lib.hid hgB
  have HGA : Hid (B ≤ ga ∧ gs ≠ ga) := Lib.hid ⟨(World.ownsRow.lt HG2.out.var.attrs ga rfl).1, fun e => own_ne HG2.out.var.slots HG2.out.var.attrs (by decide) gs rfl (by rw [e]; rfl)⟩
  clear ea hcap had hadm hAT es hgB hgl
  refine wp_region_held_drew (S := (fun _ => True)) (by kernel_rfl) trivial (fun r0 => ?_)
  refine wpAnyH_take (i := 0) (v := ?_) rfl (by kernel_rfl) (by kernel_rfl) (by kernel_rfl) (fun _ _ _ h => h) (Or.inl ⟨by rfl, ?_⟩) (by assumption) ?_
  rotate_left
  · intro wS hSw
    (try dsimp only at hSw)
    go_simp
    first | done | with_reducible rfl
  try simp only [Act.put, List.getElem_toArray, List.getElem_cons_zero, List.setIfInBounds_toArray, List.set_cons_zero, List.set_cons_succ]
  refine wpAnyH_take (i := 2) (v := ?_) rfl (by kernel_rfl) (by kernel_rfl) (by kernel_rfl) (fun _ _ _ h => h) (Or.inl ⟨by rfl, ?_⟩) (by assumption) ?_
  rotate_left
  · intro wS hSw
    (try dsimp only at hSw)
    go_simp
    first | done | with_reducible rfl
  try simp only [Act.put, List.getElem_toArray, List.getElem_cons_succ, List.getElem_cons_zero, List.setIfInBounds_toArray, List.set_cons_zero, List.set_cons_succ]
  refine wpAnyH_take (i := 4) (v := ?_) rfl (by kernel_rfl) (by kernel_rfl) (by kernel_rfl) (fun _ _ _ h => h) (Or.inl ⟨by rfl, ?_⟩) (by assumption) ?_
  rotate_left
  · intro wS hSw
    (try dsimp only at hSw)
    go_simp
    first | done | with_reducible rfl
  try simp only [Act.put, List.getElem_toArray, List.getElem_cons_succ, List.getElem_cons_zero, List.setIfInBounds_toArray, List.set_cons_zero, List.set_cons_succ]
  refine wpAnyH_take (i := 6) (v := ?_) rfl (by kernel_rfl) (by kernel_rfl) (by kernel_rfl) (fun _ _ _ h => h) (Or.inl ⟨by rfl, ?_⟩) (by assumption) ?_
  rotate_left
  · intro wS hSw
    (try dsimp only at hSw)
    go_simp
    first | done | with_reducible rfl
  try simp only [Act.put, List.getElem_toArray, List.getElem_cons_succ, List.getElem_cons_zero, List.setIfInBounds_toArray, List.set_cons_zero, List.set_cons_succ]
  refine wpAnyH_take (i := 7) (v := ?_) rfl (by kernel_rfl) (by kernel_rfl) (by kernel_rfl) (fun _ _ _ h => h) (Or.inl ⟨by rfl, ?_⟩) (by assumption) ?_
  rotate_left
  · intro wS hSw
    (try dsimp only at hSw)
    go_simp
    first | done | with_reducible rfl
  try simp only [Act.put, List.getElem_toArray, List.getElem_cons_succ, List.getElem_cons_zero, List.setIfInBounds_toArray, List.set_cons_zero, List.set_cons_succ]
  refine wpAnyH_ready (rs := [1, 5]) (by kernel_rfl) (by simp) ?_
  refine AllReadyH.cons rfl (fun K hK => ?_) (AllReadyH.cons rfl (fun K hK => ?_) AllReadyH.nil)
  · go_simp
    refine hK.out _ _ trivial (fun r1 => ?_)
    try simp only [Act.put, List.getElem_toArray, List.getElem_cons_succ, List.getElem_cons_zero, List.setIfInBounds_toArray, List.set_cons_zero, List.set_cons_succ]
    refine wpAnyH_take (i := 3) (v := ?_) rfl (by kernel_rfl) (by kernel_rfl) (by kernel_rfl) (fun _ _ _ h => h) (Or.inl ⟨by rfl, ?_⟩) (by assumption) ?_
    rotate_left
    · intro wS hSw
      (try dsimp only at hSw)
      go_simp
      first | done | with_reducible rfl
    try simp only [Act.put, List.getElem_toArray, List.getElem_cons_succ, List.getElem_cons_zero, List.setIfInBounds_toArray, List.set_cons_zero, List.set_cons_succ]
    refine wpAnyH_ready (rs := [5]) (by kernel_rfl) (by simp) ?_
    refine AllReadyH.cons rfl (fun K hK => ?_) AllReadyH.nil
    go_simp
    refine hK.out _ _ trivial (fun r2 => ?_)
    try simp only [Act.put, List.getElem_toArray, List.getElem_cons_succ, List.getElem_cons_zero, List.setIfInBounds_toArray, List.set_cons_zero, List.set_cons_succ]
    refine wpAnyH_take (i := 8) (v := ?_) rfl (by kernel_rfl) (by kernel_rfl) (by kernel_rfl) (fun _ _ _ h => h) (Or.inl ⟨by rfl, ?_⟩) (by assumption) ?_
    rotate_left
    · intro wS hSw
      (try dsimp only at hSw)
      go_simp
      first | done | with_reducible rfl
    try simp only [Act.put, List.getElem_toArray, List.getElem_cons_succ, List.getElem_cons_zero, List.setIfInBounds_toArray, List.set_cons_zero, List.set_cons_succ]
    rw [HAD.out.1]
    refine wpAnyH_ready (rs := [9]) (by kernel_rfl) (by simp) ?_
    refine AllReadyH.cons rfl (fun K hK => ?_) AllReadyH.nil
    rw [if_pos (by kernel_rfl)]
    refine wp_dropA (w0 := w2.drew) (.tmp 12) (.tmp 17) rfl B ga (b.attrs.length - (k + 1)) d3 (d3 - (k + 1)) b.attrs k HK.out rfl ad HAD.out.2 rfl rfl HG2.out.var.attrs HLL.out.2 HG2.out.size ?_
    intro v5 w5 ho5 hg5
    rw [← HAT.out] at ho5
    obtain ⟨o5, d5, rfl⟩ := ho5.slice
    have hx5 : DocAt w5 w.heap.size b.addr b.aff (.slice (some ⟨gs, 0, none⟩) b.sl.length d1) (.slice o2 b.free.length d2) (.slice (some ⟨ga, 0, none⟩) b.attrs.length d3) := (hg5.block _ (heap_lt HG2.out.var.blk) (fun e => by have h1 := Option.some.inj e; have h2 := HGA.out.1; have h3 := HG2.out.base; omega)).trans HG2.out.var.blk
    have m4 := hx5.cells.2.2.2.2
    have f4 := hx5.froz 4
    have H5 := Lib.hid (And.intro ho5 (And.intro hg5 hx5))
    clear ho5 hg5 hx5
    refine hK.out _ _ trivial (fun r3 => ?_)
    try simp only [Act.put, List.getElem_toArray, List.getElem_cons_succ, List.getElem_cons_zero, List.setIfInBounds_toArray, List.set_cons_zero, List.set_cons_succ]
    refine wpAnyH_take (i := 10) (v := ?_) rfl (by kernel_rfl) (by kernel_rfl) (by kernel_rfl) (fun _ _ _ h => h) (Or.inl ⟨by rfl, ?_⟩) (by assumption) ?_
    rotate_left
    · intro wS hSw
      (try dsimp only at hSw)
      go_simp
      first | done | with_reducible rfl
    try simp only [Act.put, List.getElem_toArray, List.getElem_cons_succ, List.getElem_cons_zero, List.setIfInBounds_toArray, List.set_cons_zero, List.set_cons_succ]
    refine wpAnyH_ready (rs := [11]) (by kernel_rfl) (by simp) ?_
    refine AllReadyH.cons rfl (fun K hK => ?_) AllReadyH.nil
    go_simp
    refine hK.out _ _ trivial (fun r4 => ?_)
    try simp only [Act.put, List.getElem_toArray, List.getElem_cons_succ, List.getElem_cons_zero, List.setIfInBounds_toArray, List.set_cons_zero, List.set_cons_succ]
    refine wpAnyH_done (by kernel_rfl) ?_ _
    have HG3 : Hid (DpI w B ⟨b.addr, b.aff, stepD k b.sl 0, b.free, AT⟩ (.slice (some ⟨gs, 0, none⟩) b.sl.length d1) (.slice o2 b.free.length d2) (.slice o5 AT.length d5) (w5.setCell ⟨w.heap.size, 4, none⟩ (.slice o5 AT.length d5))) := Lib.hid (by
      obtain ⟨ho5, hg5, hx5⟩ := H5.out
      have hv := HG2.out
      have hbs := hv.base
      have hga := HGA.out.1
      refine ⟨⟨hx5.set4 _, own_set (own_grownO hv.var.slots hg5 (fun d hd e => own_ne hv.var.slots hv.var.attrs (by decide) d hd (by rw [← e]; rfl))) (a := ⟨w.heap.size, 4, none⟩) (by show w.heap.size < B; omega) _, own_set (own_grownO hv.var.free hg5 (fun d hd e => own_ne hv.var.free hv.var.attrs (by decide) d hd (by rw [← e]; rfl))) (a := ⟨w.heap.size, 4, none⟩) (by show w.heap.size < B; omega) _, own_set ho5 (a := ⟨w.heap.size, 4, none⟩) (by show w.heap.size < B; omega) _, hv.var.ne⟩, ?_, ?_, hv.base, Nat.le_trans hv.size (Nat.le_trans hg5.size (size_set (Nat.le_refl _) _ _))⟩
      · exact DocAt.setO (p := ⟨w.heap.size, 4, none⟩) ((hg5.block _ (heap_lt hv.zero) (fun e => by have h1 := Option.some.inj e; omega)).trans hv.zero) (by show w.heap.size + 1 ≠ w.heap.size; omega) _
      · exact (hv.below.grown hg5 hv.below.size (fun d hd => by cases hd; omega)).setCell (p := ⟨w.heap.size, 4, none⟩) (Nat.le_refl _) _)
    generalize w5.setCell ⟨w.heap.size, 4, none⟩ (.slice o5 AT.length d5) = w3 at HG3 ⊢
    clear H5 m4 f4 k4 b0 b1 b2 b3 b4
    obtain ⟨k0, k1, k2, k3, k4⟩ := HG3.out.var.blk.cells
    go_wp2_with fail
    clear k0 k1 k2 k3 k4
    go_loopw [5, 6, 23] (fun _ _ j wr => ∃ n : Nat, n ≤ b.sl.length ∧ j = .int .i64 n ∧ Hid (DpI w B ⟨b.addr, b.aff, stepD k b.sl n, b.free, AT⟩ (.slice (some ⟨gs, 0, none⟩) b.sl.length d1) (.slice o2 b.free.length d2) (.slice o5 AT.length d5) wr)) (fun _ _ j _ => b.sl.length - (intOf j).toNat)
    case atStart => exact ⟨0, Nat.zero_le _, rfl, HG3⟩
    case round =>
      obtain ⟨n, hn, rfl, HG⟩ := hrel
      by_cases hlt : n < b.sl.length
      · have hp : b.sl[n]? = some (b.sl.getD n 0) := by rw [List.getD_eq_getElem?_getD, List.getElem?_eq_getElem hlt]; rfl
        have hxb := HOK.out _ (List.mem_of_getElem? hp)
        have hst := stepD_step k hp
        have hat := (stepD_at k hlt).trans hp
        generalize b.sl.getD n 0 = x at hp hxb hst hat
        obtain ⟨xa, exa, -, hxa⟩ := HG.out.var.sees.slots.at hat
        obtain rfl : xa = ⟨gs, 0, none⟩ := (Option.some.inj exa).symm
        have q0 : wr.cell? ((⟨gs, 0, none⟩ : Addr).add (n * 1)) = some (.int .i64 x) := hxa 0 _ rfl
        rw [Nat.mul_one, add0] at q0
        have b0 : (0 : Int) ≤ (n : Int) := by omega
        have b1 : (n : Int) < (b.sl.length : Int) := by omega
        have dd : decide ((n : Int) < (b.sl.length : Int)) = true := by simp; omega
        have s2 : IntKind.i64.wrap ((n : Int) + 1) = (n : Int) + 1 := IntWalk.i64_in _ (by have := HL64.out; omega)
        have HLT := Lib.hid hlt
        have HST := Lib.hid hst
        have HAT2 := Lib.hid hat
        clear hp hst hat hxa exa hlt
        by_cases hx : (k : Int) + 1 < x
        · have dx : decide ((k : Int) + 1 < x) = true := decide_eq_true hx
          have s3 : IntKind.i64.wrap (x - 1) = x - 1 := IntWalk.i64_in _ (by omega)
          have HS2 : Hid (stepD k b.sl (n + 1) = (stepD k b.sl n).set n (x - 1)) := Lib.hid (by rw [HST.out, if_pos hx])
          have f0 : wr.frozen? ⟨gs, n, none⟩ = false := frozenS HG.out.var.slots n
          obtain ⟨k0, k1, k2, k3, k4⟩ := HG.out.var.blk.cells
          clear hx hxb
          go_wp2_with fail
          go_roundw
          case rel =>
            refine ⟨n + 1, HLT.out, by go_num, ?_⟩
            rw [HS2.out]
            have hv := HG.out
            obtain ⟨r1, hg⟩ := RowI1.stored hv.var.slots n (x - 1)
            have hbs := hv.base
            have hgs := HGS.out
            exact Lib.hid ⟨⟨hv.var.blk.setO (p := ⟨gs, n, none⟩) (by show w.heap.size ≠ gs; omega) _, r1, own_grownO hv.var.free hg (fun d hd e => hv.var.ne d (by rw [← e]; rfl) hd), own_grownO hv.var.attrs hg (fun d hd e => own_ne hv.var.slots hv.var.attrs (by decide) d (by rw [← e]; rfl) hd), hv.var.ne⟩, hv.zero.setO (p := ⟨gs, n, none⟩) (by show w.heap.size + 1 ≠ gs; omega) _, hv.below.setCell (p := ⟨gs, n, none⟩) (by show w.heap.size ≤ gs; omega) _, hv.base, Nat.le_trans hv.size (size_set (Nat.le_refl _) _ _)⟩
          case measure => simp [intOf]; have := HLT.out; omega
        · have dx : decide ((k : Int) + 1 < x) = false := decide_eq_false hx
          have HS2 : Hid (stepD k b.sl (n + 1) = stepD k b.sl n) := Lib.hid (by
            rw [HST.out, if_neg hx]
            exact set_self HAT2.out)
          clear hx hxb
          go_wp2_with fail
          go_roundw
          case rel => exact ⟨n + 1, HLT.out, by go_num, by rw [HS2.out]; exact HG⟩
          case measure => simp [intOf]; have := HLT.out; omega
      · obtain rfl : n = b.sl.length := by omega
        have dd : decide ((b.sl.length : Int) < (b.sl.length : Int)) = false := by simp
        have HDV : Hid (∀ v1 v2 v3 X, VarD X B w.heap.size ⟨b.addr, b.aff, stepD k b.sl b.sl.length, b.free, AT⟩ v1 v2 v3 → VarD X B w.heap.size (dropS b k) v1 v2 v3) := Lib.hid (fun v1 v2 v3 X hv => by
          have e : dropS b k = ⟨b.addr, b.aff, stepD k b.sl b.sl.length, b.free, AT⟩ := by
            rw [stepD_full, HAT.out]
            rfl
          rw [e]
          exact hv)
        have HV8 := Lib.hid (HDV.out _ _ _ _ HG.out.var)
        have HBL : Hid (DocAt wr w.heap.size b.addr b.aff (.slice (some ⟨gs, 0, none⟩) b.sl.length d1) (.slice o2 b.free.length d2) (.slice o5 AT.length d5)) := Lib.hid HG.out.var.blk
        go_wp2_with (first
          | (refine wpLdD rfl _ rfl rfl HBL.out ?_)
          | (refine wpStD (y := b.addr) (s := b.aff) rfl _ _ rfl rfl rfl HG.out.zero rfl rfl rfl ?_; intro w9 hx9 hg9))
        have hlt9 : w.heap.size + 1 < B := by have := HG.out.base; omega
        have hwB : w.heap.size ≤ B := by have := HG.out.base; omega
        exact bodyPost_ret (v := docV b.addr b.aff (.slice (some ⟨gs, 0, none⟩) b.sl.length d1) (.slice o2 b.free.length d2) (.slice o5 AT.length d5)) (resB1 rfl rfl (loadVarD hx9)) rfl ⟨_, _, _, rfl, RowG.le (own_grown HV8.out.slots hg9 hlt9) hwB, RowG.le (own_grown HV8.out.free hg9 hlt9) hwB, RowG.le (own_grown HV8.out.attrs hg9 hlt9) hwB, HG.out.below.grown hg9 HG.out.below.size (fun d hd => by cases hd; omega), HV8.out.ne⟩
  · go_simp
    refine hK.out _ _ trivial (fun r1 => ?_)
    try simp only [Act.put, List.getElem_toArray, List.getElem_cons_succ, List.getElem_cons_zero, List.setIfInBounds_toArray, List.set_cons_zero, List.set_cons_succ]
    refine wpAnyH_take (i := 8) (v := ?_) rfl (by kernel_rfl) (by kernel_rfl) (by kernel_rfl) (fun _ _ _ h => h) (Or.inl ⟨by rfl, ?_⟩) (by assumption) ?_
    rotate_left
    · intro wS hSw
      (try dsimp only at hSw)
      go_simp
      first | done | with_reducible rfl
    try simp only [Act.put, List.getElem_toArray, List.getElem_cons_succ, List.getElem_cons_zero, List.setIfInBounds_toArray, List.set_cons_zero, List.set_cons_succ]
    refine wpAnyH_ready (rs := [1]) (by kernel_rfl) (by simp) ?_
    refine AllReadyH.cons rfl (fun K hK => ?_) AllReadyH.nil
    go_simp
    refine hK.out _ _ trivial (fun r2 => ?_)
    try simp only [Act.put, List.getElem_toArray, List.getElem_cons_succ, List.getElem_cons_zero, List.setIfInBounds_toArray, List.set_cons_zero, List.set_cons_succ]
    refine wpAnyH_take (i := 3) (v := ?_) rfl (by kernel_rfl) (by kernel_rfl) (by kernel_rfl) (fun _ _ _ h => h) (Or.inl ⟨by rfl, ?_⟩) (by assumption) ?_
    rotate_left
    · intro wS hSw
      (try dsimp only at hSw)
      go_simp
      first | done | with_reducible rfl
    try simp only [Act.put, List.getElem_toArray, List.getElem_cons_succ, List.getElem_cons_zero, List.setIfInBounds_toArray, List.set_cons_zero, List.set_cons_succ]
    rw [HAD.out.1]
    refine wpAnyH_ready (rs := [9]) (by kernel_rfl) (by simp) ?_
    refine AllReadyH.cons rfl (fun K hK => ?_) AllReadyH.nil
    rw [if_pos (by kernel_rfl)]
    refine wp_dropA (w0 := w2.drew) (.tmp 12) (.tmp 17) rfl B ga (b.attrs.length - (k + 1)) d3 (d3 - (k + 1)) b.attrs k HK.out rfl ad HAD.out.2 rfl rfl HG2.out.var.attrs HLL.out.2 HG2.out.size ?_
    intro v5 w5 ho5 hg5
    rw [← HAT.out] at ho5
    obtain ⟨o5, d5, rfl⟩ := ho5.slice
    have hx5 : DocAt w5 w.heap.size b.addr b.aff (.slice (some ⟨gs, 0, none⟩) b.sl.length d1) (.slice o2 b.free.length d2) (.slice (some ⟨ga, 0, none⟩) b.attrs.length d3) := (hg5.block _ (heap_lt HG2.out.var.blk) (fun e => by have h1 := Option.some.inj e; have h2 := HGA.out.1; have h3 := HG2.out.base; omega)).trans HG2.out.var.blk
    have m4 := hx5.cells.2.2.2.2
    have f4 := hx5.froz 4
    have H5 := Lib.hid (And.intro ho5 (And.intro hg5 hx5))
    clear ho5 hg5 hx5
    refine hK.out _ _ trivial (fun r3 => ?_)
    try simp only [Act.put, List.getElem_toArray, List.getElem_cons_succ, List.getElem_cons_zero, List.setIfInBounds_toArray, List.set_cons_zero, List.set_cons_succ]
    refine wpAnyH_take (i := 10) (v := ?_) rfl (by kernel_rfl) (by kernel_rfl) (by kernel_rfl) (fun _ _ _ h => h) (Or.inl ⟨by rfl, ?_⟩) (by assumption) ?_
    rotate_left
    · intro wS hSw
      (try dsimp only at hSw)
      go_simp
      first | done | with_reducible rfl
    try simp only [Act.put, List.getElem_toArray, List.getElem_cons_succ, List.getElem_cons_zero, List.setIfInBounds_toArray, List.set_cons_zero, List.set_cons_succ]
    refine wpAnyH_ready (rs := [11]) (by kernel_rfl) (by simp) ?_
    refine AllReadyH.cons rfl (fun K hK => ?_) AllReadyH.nil
    go_simp
    refine hK.out _ _ trivial (fun r4 => ?_)
    try simp only [Act.put, List.getElem_toArray, List.getElem_cons_succ, List.getElem_cons_zero, List.setIfInBounds_toArray, List.set_cons_zero, List.set_cons_succ]
    refine wpAnyH_done (by kernel_rfl) ?_ _
    have HG3 : Hid (DpI w B ⟨b.addr, b.aff, stepD k b.sl 0, b.free, AT⟩ (.slice (some ⟨gs, 0, none⟩) b.sl.length d1) (.slice o2 b.free.length d2) (.slice o5 AT.length d5) (w5.setCell ⟨w.heap.size, 4, none⟩ (.slice o5 AT.length d5))) := Lib.hid (by
      obtain ⟨ho5, hg5, hx5⟩ := H5.out
      have hv := HG2.out
      have hbs := hv.base
      have hga := HGA.out.1
      refine ⟨⟨hx5.set4 _, own_set (own_grownO hv.var.slots hg5 (fun d hd e => own_ne hv.var.slots hv.var.attrs (by decide) d hd (by rw [← e]; rfl))) (a := ⟨w.heap.size, 4, none⟩) (by show w.heap.size < B; omega) _, own_set (own_grownO hv.var.free hg5 (fun d hd e => own_ne hv.var.free hv.var.attrs (by decide) d hd (by rw [← e]; rfl))) (a := ⟨w.heap.size, 4, none⟩) (by show w.heap.size < B; omega) _, own_set ho5 (a := ⟨w.heap.size, 4, none⟩) (by show w.heap.size < B; omega) _, hv.var.ne⟩, ?_, ?_, hv.base, Nat.le_trans hv.size (Nat.le_trans hg5.size (size_set (Nat.le_refl _) _ _))⟩
      · exact DocAt.setO (p := ⟨w.heap.size, 4, none⟩) ((hg5.block _ (heap_lt hv.zero) (fun e => by have h1 := Option.some.inj e; omega)).trans hv.zero) (by show w.heap.size + 1 ≠ w.heap.size; omega) _
      · exact (hv.below.grown hg5 hv.below.size (fun d hd => by cases hd; omega)).setCell (p := ⟨w.heap.size, 4, none⟩) (Nat.le_refl _) _)
    generalize w5.setCell ⟨w.heap.size, 4, none⟩ (.slice o5 AT.length d5) = w3 at HG3 ⊢
    clear H5 m4 f4 k4 b0 b1 b2 b3 b4
    obtain ⟨k0, k1, k2, k3, k4⟩ := HG3.out.var.blk.cells
    go_wp2_with fail
    clear k0 k1 k2 k3 k4
    go_loopw [5, 6, 23] (fun _ _ j wr => ∃ n : Nat, n ≤ b.sl.length ∧ j = .int .i64 n ∧ Hid (DpI w B ⟨b.addr, b.aff, stepD k b.sl n, b.free, AT⟩ (.slice (some ⟨gs, 0, none⟩) b.sl.length d1) (.slice o2 b.free.length d2) (.slice o5 AT.length d5) wr)) (fun _ _ j _ => b.sl.length - (intOf j).toNat)
    case atStart => exact ⟨0, Nat.zero_le _, rfl, HG3⟩
    case round =>
      obtain ⟨n, hn, rfl, HG⟩ := hrel
      by_cases hlt : n < b.sl.length
      · have hp : b.sl[n]? = some (b.sl.getD n 0) := by rw [List.getD_eq_getElem?_getD, List.getElem?_eq_getElem hlt]; rfl
        have hxb := HOK.out _ (List.mem_of_getElem? hp)
        have hst := stepD_step k hp
        have hat := (stepD_at k hlt).trans hp
        generalize b.sl.getD n 0 = x at hp hxb hst hat
        obtain ⟨xa, exa, -, hxa⟩ := HG.out.var.sees.slots.at hat
        obtain rfl : xa = ⟨gs, 0, none⟩ := (Option.some.inj exa).symm
        have q0 : wr.cell? ((⟨gs, 0, none⟩ : Addr).add (n * 1)) = some (.int .i64 x) := hxa 0 _ rfl
        rw [Nat.mul_one, add0] at q0
        have b0 : (0 : Int) ≤ (n : Int) := by omega
        have b1 : (n : Int) < (b.sl.length : Int) := by omega
        have dd : decide ((n : Int) < (b.sl.length : Int)) = true := by simp; omega
        have s2 : IntKind.i64.wrap ((n : Int) + 1) = (n : Int) + 1 := IntWalk.i64_in _ (by have := HL64.out; omega)
        have HLT := Lib.hid hlt
        have HST := Lib.hid hst
        have HAT2 := Lib.hid hat
        clear hp hst hat hxa exa hlt
        by_cases hx : (k : Int) + 1 < x
        · have dx : decide ((k : Int) + 1 < x) = true := decide_eq_true hx
          have s3 : IntKind.i64.wrap (x - 1) = x - 1 := IntWalk.i64_in _ (by omega)
          have HS2 : Hid (stepD k b.sl (n + 1) = (stepD k b.sl n).set n (x - 1)) := Lib.hid (by rw [HST.out, if_pos hx])
          have f0 : wr.frozen? ⟨gs, n, none⟩ = false := frozenS HG.out.var.slots n
          obtain ⟨k0, k1, k2, k3, k4⟩ := HG.out.var.blk.cells
          clear hx hxb
          go_wp2_with fail
          go_roundw
          case rel =>
            refine ⟨n + 1, HLT.out, by go_num, ?_⟩
            rw [HS2.out]
            have hv := HG.out
            obtain ⟨r1, hg⟩ := RowI1.stored hv.var.slots n (x - 1)
            have hbs := hv.base
            have hgs := HGS.out
            exact Lib.hid ⟨⟨hv.var.blk.setO (p := ⟨gs, n, none⟩) (by show w.heap.size ≠ gs; omega) _, r1, own_grownO hv.var.free hg (fun d hd e => hv.var.ne d (by rw [← e]; rfl) hd), own_grownO hv.var.attrs hg (fun d hd e => own_ne hv.var.slots hv.var.attrs (by decide) d (by rw [← e]; rfl) hd), hv.var.ne⟩, hv.zero.setO (p := ⟨gs, n, none⟩) (by show w.heap.size + 1 ≠ gs; omega) _, hv.below.setCell (p := ⟨gs, n, none⟩) (by show w.heap.size ≤ gs; omega) _, hv.base, Nat.le_trans hv.size (size_set (Nat.le_refl _) _ _)⟩
          case measure => simp [intOf]; have := HLT.out; omega
        · have dx : decide ((k : Int) + 1 < x) = false := decide_eq_false hx
          have HS2 : Hid (stepD k b.sl (n + 1) = stepD k b.sl n) := Lib.hid (by
            rw [HST.out, if_neg hx]
            exact set_self HAT2.out)
          clear hx hxb
          go_wp2_with fail
          go_roundw
          case rel => exact ⟨n + 1, HLT.out, by go_num, by rw [HS2.out]; exact HG⟩
          case measure => simp [intOf]; have := HLT.out; omega
      · obtain rfl : n = b.sl.length := by omega
        have dd : decide ((b.sl.length : Int) < (b.sl.length : Int)) = false := by simp
        have HDV : Hid (∀ v1 v2 v3 X, VarD X B w.heap.size ⟨b.addr, b.aff, stepD k b.sl b.sl.length, b.free, AT⟩ v1 v2 v3 → VarD X B w.heap.size (dropS b k) v1 v2 v3) := Lib.hid (fun v1 v2 v3 X hv => by
          have e : dropS b k = ⟨b.addr, b.aff, stepD k b.sl b.sl.length, b.free, AT⟩ := by
            rw [stepD_full, HAT.out]
            rfl
          rw [e]
          exact hv)
        have HV8 := Lib.hid (HDV.out _ _ _ _ HG.out.var)
        have HBL : Hid (DocAt wr w.heap.size b.addr b.aff (.slice (some ⟨gs, 0, none⟩) b.sl.length d1) (.slice o2 b.free.length d2) (.slice o5 AT.length d5)) := Lib.hid HG.out.var.blk
        go_wp2_with (first
          | (refine wpLdD rfl _ rfl rfl HBL.out ?_)
          | (refine wpStD (y := b.addr) (s := b.aff) rfl _ _ rfl rfl rfl HG.out.zero rfl rfl rfl ?_; intro w9 hx9 hg9))
        have hlt9 : w.heap.size + 1 < B := by have := HG.out.base; omega
        have hwB : w.heap.size ≤ B := by have := HG.out.base; omega
        exact bodyPost_ret (v := docV b.addr b.aff (.slice (some ⟨gs, 0, none⟩) b.sl.length d1) (.slice o2 b.free.length d2) (.slice o5 AT.length d5)) (resB1 rfl rfl (loadVarD hx9)) rfl ⟨_, _, _, rfl, RowG.le (own_grown HV8.out.slots hg9 hlt9) hwB, RowG.le (own_grown HV8.out.free hg9 hlt9) hwB, RowG.le (own_grown HV8.out.attrs hg9 hlt9) hwB, HG.out.below.grown hg9 HG.out.below.size (fun d hd => by cases hd; omega), HV8.out.ne⟩
end
section
open Go.RowKit
theorem refOf_und (c : BlkS) (v1 v2 v3 : Value) (x : Int) (w : World) (h : DocSees w c.sl c.free c.attrs v1 v2 v3) (hl : c.sl.length = 64) (h64 : c.addr % 64 = 0) (hal : c.attrs.length ≤ 64) (hsl : ∀ i, 0 ≤ c.sl.getD i 0 ∧ c.sl.getD i 0 ≤ c.attrs.length) (hx : 0 ≤ x) (hx' : x < 4294967296) :
    Calls Tryz.prog 53 #[docV c.addr c.aff v1 v2 v3, .int .u32 x] w fun e w' => e = .returned (.tuple #[atV (undP c x).1, .bool (undP c x).2]) ∧ Below w.heap.size w w' := by
  by_cases hh : inB c.addr x = true ∧ c.sl.getD (x - c.addr).toNat 0 ≠ 0
  · have hi := inB_iff.1 hh.1
    have e : x % 64 = x - c.addr := by omega
    have hn : (x % 64).toNat < c.sl.length := by omega
    have hb := hsl (x - c.addr).toNat
    have hz0 := hh.2
    have hu : undP c x = (atA c.attrs (c.sl.getD (x - c.addr).toNat 0 - 1).toNat, true) := by unfold undP; rw [if_pos hh]
    rw [hu]
    refine refOf_yes c.addr c.aff v1 v2 v3 c.sl c.free c.attrs x (c.sl.getD (x - c.addr).toNat 0) _ w h hl (by omega) hx hx' hh.1 ?_ (by omega) (atA_get (by omega))
    rw [List.getElem?_eq_getElem hn]
    congr 1
    rw [← e, List.getD_eq_getElem?_getD, List.getElem?_eq_getElem hn]
    rfl
  · have hu : undP c x = ((em, em), false) := by unfold undP; rw [if_neg hh]
    rw [hu]
    refine refOf_no c.addr c.aff v1 v2 v3 c.sl c.free c.attrs x w h hl hx hx' ?_
    cases hib : inB c.addr x with
    | false => exact Or.inl rfl
    | true =>
      have hi := inB_iff.1 hib
      have e : x % 64 = x - c.addr := by omega
      refine Or.inr ?_
      rw [e]
      by_cases h0 : c.sl.getD (x - c.addr).toNat 0 = 0
      · exact h0
      · exact absurd ⟨hib, h0⟩ hh
/-- While some are released: the block's variable, the result's, what is told. -/
structure RlI (w : World) (B : Nat) (c : BlkS) (v1 v2 v3 u : Value) (L : List Int) (X : World) : Prop where
  var : VarD X B w.heap.size c v1 v2 v3
  zero : DocAt X (w.heap.size + 1) 0 ⟨#[]⟩ NS NS NS
  below : Below w.heap.size w X
  base : w.heap.size + 2 ≤ B
  size : B ≤ X.heap.size
  told : RowU1 X B u L
theorem RlI.later {w : World} {B : Nat} {c : BlkS} {v1 v2 v3 u : Value} {L : List Int} {X Y : World} (h : RlI w B c v1 v2 v3 u L X) (hb : Below X.heap.size X Y) : RlI w B c v1 v2 v3 u L Y :=
  ⟨h.var.below hb, h.zero.below hb, h.below.trans (hb.mono h.below.size), h.base, Nat.le_trans h.size hb.size, own_keep h.told hb⟩
/-- While they are dropped: loose, what is left to be done comes to what is tidy. -/
structure TdI (T : BlkS) (k : Nat) (c : BlkS) : Prop where
  len : c.sl.length = 64
  ok : ∀ x ∈ c.sl, 0 ≤ x ∧ x < 256
  le : k ≤ c.attrs.length
  at64 : c.attrs.length ≤ 64
  fr : c.free.length ≤ 200
  addr : c.addr = T.addr
  aff : c.aff = T.aff
  tid : tdn c k = T
theorem TdI.step {T : BlkS} {k : Nat} {c : BlkS} (h : TdI T (k + 1) c) : TdI T k (if cntN c.sl ((k : Int) + 1) = 0 then dropS c k else c) := by
  have ht := h.tid
  rw [tdn] at ht
  have hle := h.le
  by_cases h0 : cntN c.sl ((k : Int) + 1) = 0
  · rw [if_pos h0] at ht ⊢
    refine ⟨?_, fun x hx => ?_, ?_, ?_, h.fr, h.addr, h.aff, ht⟩
    · show (List.map _ _).length = 64
      rw [List.length_map]; exact h.len
    · obtain ⟨y, hy, rfl⟩ := List.mem_map.1 hx
      have := h.ok y hy
      by_cases hg : y > (k : Int) + 1
      · rw [if_pos hg]; omega
      · rw [if_neg hg]; exact this
    · show k ≤ (c.attrs.take k ++ c.attrs.drop (k + 1)).length
      simp; omega
    · show (c.attrs.take k ++ c.attrs.drop (k + 1)).length ≤ 64
      have := h.at64
      simp; omega
  · rw [if_neg h0] at ht ⊢
    exact ⟨h.len, h.ok, by omega, h.at64, h.fr, h.addr, h.aff, ht⟩
set_option maxRecDepth 100000 in
set_option maxHeartbeats 8000000 in
theorem docRelease_any (b : BlkS) (v1 v2 v3 lv : Value) (l : List Int) (w : World) (h : DocSees w b.sl b.free b.attrs v1 v2 v3) (hw : BWf b) (hr : rightB b = true) (hls : SeesG 1 encU1 w lv l) (hlx : ∀ x ∈ l, 0 ≤ x ∧ x < 4294967296) (hll : l.length ≤ 1000000) :
    Calls Tryz.prog 22 #[docV b.addr b.aff v1 v2 v3, lv] w fun e w' => ∃ u1 u2 u3 tv, e = .returned (.tuple #[docV b.addr b.aff u1 u2 u3, tv]) ∧ DocOwn w w' (tidS (relN (fun _ => true) b l l.length).1) u1 u2 u3 ∧ RowU1 w' w.heap.size tv (relN (fun _ => true) b l l.length).2 := by
  obtain ⟨a1, c1, rfl⟩ := h.slots.slice
  obtain ⟨a2, c2, rfl⟩ := h.free.slice
  obtain ⟨a3, c3, rfl⟩ := h.attrs.slice
  obtain ⟨ao, lc, rfl⟩ := hls.slice
  obtain ⟨hb0, hA, hR, hsz⟩ := two_newB w (docO b.addr b.aff (.slice a1 b.sl.length c1) (.slice a2 b.free.length c2) (.slice a3 b.attrs.length c3)) (docO 0 ⟨#[]⟩ NS NS NS)
  obtain ⟨W, hW⟩ : ∃ W, W = (w.alloc (docO b.addr b.aff (.slice a1 b.sl.length c1) (.slice a2 b.free.length c2) (.slice a3 b.attrs.length c3))).alloc (docO 0 ⟨#[]⟩ NS NS NS) := ⟨_, rfl⟩
  rw [← hW] at hb0 hA hR hsz
  have hl := hw.2.1
  obtain ⟨h64, _, hal, hsl⟩ := right_bd hw hr
  obtain ⟨hfo, _, hfl⟩ := right_free hr
  have HX0 : Hid (DocAt W w.heap.size b.addr b.aff (.slice a1 b.sl.length c1) (.slice a2 b.free.length c2) (.slice a3 b.attrs.length c3)) := Lib.hid hA
  have HZ0 : Hid (DocAt W (w.heap.size + 1) 0 ⟨#[]⟩ NS NS NS) := Lib.hid hR
  have HB0 := Lib.hid hb0
  have HSZ := Lib.hid hsz
  have HW := Lib.hid hW
  have HCP := Lib.hid (copyE_any b.addr b.aff _ _ _ b.sl b.free b.attrs W (h.below hb0) (by omega) (by omega) (by omega))
  have HLS := Lib.hid hls
  have HLX := Lib.hid hlx
  have HINV := Lib.hid (relN_inv (fun _ => true) b l hl hsl)
  have hnz := nzN_le b.sl
  have HLN := Lib.hid (And.intro hl (And.intro hfl (And.intro hal (And.intro h64 (And.intro hnz hw.1)))))
  have HBT : Hid (TdI (tidS (relN (fun _ => true) b l l.length).1) b.attrs.length (relN (fun _ => true) b l l.length).1) := Lib.hid (by
    obtain ⟨i1, i2, i3, i4, i5, i6, i7⟩ := relN_inv (fun _ => true) b l hl hsl l.length
    have hwf := rel_wf (fun _ => true) hw hr (l := l) (fun x hx => (hlx x hx).1)
    have hlo := (rel_loose (fun _ => true) hw hr (l := l) (fun x hx => (hlx x hx).1) l.length (Nat.le_refl _)).1
    refine ⟨i4, fun x hx => ?_, by rw [i3]; exact Nat.le_refl _, by rw [i3]; exact hal, by rw [i6]; omega, rfl, rfl, ?_⟩
    · have := hwf.2.2.1 x hx; omega
    · rw [← i3]
      exact tdn_tid hwf.2.2.1 i4 hlo)
  clear hW hb0 hA hR hsz h hl hls hlx hw hr h64 hal hsl hfo hfl hnz
  go_enter Tryz.func22, Tryz.ntmps22
  go_upto_region 2 with fail
  change Code.wp _ _ _ _ ((w.alloc (docO b.addr b.aff (.slice a1 b.sl.length c1) (.slice a2 b.free.length c2) (.slice a3 b.attrs.length c3))).alloc (docO 0 ⟨#[]⟩ NS NS NS))
  rw [← HW.out]
  clear HW
  go_wp2_with (refine wpLdD rfl _ rfl rfl HX0.out ?_)
  refine HCP.out.mono ?_; rintro e w1 ⟨u1, u2, u3, rfl, hr1, hr2, hr3, hb1, hne⟩
  obtain ⟨o1, d1, rfl⟩ := hr1.slice
  obtain ⟨o2, d2, rfl⟩ := hr2.slice
  obtain ⟨o3, d3, rfl⟩ := hr3.slice
  have HX1 := Lib.hid (HX0.out.below hb1)
  have HR := Lib.hid (And.intro hr1 (And.intro hr2 (And.intro hr3 (And.intro hb1 hne))))
  clear hr1 hr2 hr3 hb1 hne HCP
  go_upto_region 3 with (refine wpStD (y := b.addr) (s := b.aff) rfl _ _ rfl rfl rfl HX1.out rfl rfl rfl ?_; intro w2 hx2 hg2)
  have HG2 : Hid (RlI w W.heap.size b (.slice o1 b.sl.length d1) (.slice o2 b.free.length d2) (.slice o3 b.attrs.length d3) NS [] w2) := Lib.hid (by
    obtain ⟨r1, r2, r3, hb1, hne⟩ := HR.out
    have hlt : w.heap.size < W.heap.size := by have := HSZ.out; omega
    refine ⟨⟨hx2, own_grown r1 hg2 hlt, own_grown r2 hg2 hlt, own_grown r3 hg2 hlt, hne⟩, ?_, ?_, by have := HSZ.out; omega, Nat.le_trans hb1.size hg2.size, RowG.nil _ _ _ _ _⟩
    · exact (hg2.block _ (by have := hb1.size; have := HSZ.out; omega) (fun e => by have := Option.some.inj e; omega)).trans ((HZ0.out.below hb1))
    · exact (HB0.out.trans (hb1.mono HB0.out.size)).grown hg2 (Nat.le_trans HB0.out.size hb1.size) (fun k hk => by cases hk; exact Nat.le_refl _))
  clear hx2 hg2 HR HX1 HX0 HZ0 HB0
  generalize hBB : W.heap.size = B at HG2
  clear hBB
  go_wp2_with fail
  go_loopw [6, 8, 9, 10, 16] (fun u _ _ _ j wr => ∃ n : Nat, n ≤ l.length ∧ j = .int .i64 n ∧ Hid (∃ o c, u = .slice o (relN (fun _ => true) b l n).2.length c) ∧ Hid (∃ v1 v2 v3, RlI w B (relN (fun _ => true) b l n).1 v1 v2 v3 u (relN (fun _ => true) b l n).2 wr)) (fun _ _ _ _ j _ => l.length - (intOf j).toNat)
  case atStart => exact ⟨0, Nat.zero_le _, rfl, Lib.hid ⟨none, 0, rfl⟩, Lib.hid ⟨_, _, _, HG2.out⟩⟩
  case round =>
    clear HG2
    obtain ⟨n, hn, rfl, HF, HE⟩ := hrel
    obtain ⟨uo, uc, rfl⟩ := HF.out
    obtain ⟨v1, v2, v3, hI⟩ := HE.out
    obtain ⟨s1, e1, rfl⟩ := hI.var.slots.slice
    obtain ⟨s2, e2, rfl⟩ := hI.var.free.slice
    obtain ⟨s3, e3, rfl⟩ := hI.var.attrs.slice
    by_cases hlt : n < l.length
    · obtain ⟨x, hxd⟩ : ∃ x, x = l.getD n 0 := ⟨_, rfl⟩
      have hp : l[n]? = some x := by rw [hxd, List.getD_eq_getElem?_getD, List.getElem?_eq_getElem hlt]; rfl
      obtain ⟨xa, exa, -, hxa⟩ := (HLS.out.below hI.below).at hp
      subst exa
      have q0 : wr.cell? (xa.add (n * 1)) = some (.int .u32 x) := hxa 0 _ rfl
      rw [Nat.mul_one] at q0
      have hxb := HLX.out x (List.mem_of_getElem? hp)
      obtain ⟨i1, i2, i3, i4, i5, i6, i7⟩ := HINV.out n
      have hrn : relN (fun _ => true) b l (n + 1) = if (undP (relN (fun _ => true) b l n).1 x).2 = true then (drpS (relN (fun _ => true) b l n).1 x, (relN (fun _ => true) b l n).2 ++ [x]) else ((relN (fun _ => true) b l n).1, (relN (fun _ => true) b l n).2) := by
        rw [relN, ← hxd]
        simp only [hitR, Bool.and_true]
      have hOf := refOf_und (relN (fun _ => true) b l n).1 _ _ _ x wr hI.var.sees i4 (by rw [i1]; exact HLN.out.2.2.2.1) (by rw [i3]; exact HLN.out.2.2.1) (fun i => by rw [i3]; exact i5 i) hxb.1 hxb.2
      have HII := Lib.hid hI
      have HOF := Lib.hid hOf
      have HRN := Lib.hid hrn
      have HI4 := Lib.hid i4
      have HI1 := Lib.hid i1
      have HI67 : Hid ((relN (fun _ => true) b l n).1.free.length ≤ 200 ∧ (relN (fun _ => true) b l n).2.length ≤ 64) := Lib.hid (by have := HLN.out.1; have := HLN.out.2.1; have := HLN.out.2.2.2.2.1; omega)
      have b0 : (0 : Int) ≤ (n : Int) := by omega
      have b1 : (n : Int) < (l.length : Int) := by omega
      have dd : decide ((n : Int) < (l.length : Int)) = true := by simp; omega
      have sn : IntKind.i64.wrap ((n : Int) + 1) = (n : Int) + 1 := IntWalk.i64_in _ (by omega)
      have HLT := Lib.hid hlt
      have HXB := Lib.hid hxb
      clear hp hxa hI hrn hOf i1 i2 i3 i4 i5 i6 i7 hlt hxb hxd HE HF
      generalize (relN (fun _ => true) b l n).2 = L at *
      generalize (relN (fun _ => true) b l n).1 = c at *
      obtain ⟨ua, hua⟩ : ∃ ua, ua = (undP c x).1 := ⟨_, rfl⟩
      rw [← hua] at HOF
      have HUA := Lib.hid hua
      clear hua
      cases hub : (undP c x).2 with
      | false =>
        rw [hub] at HOF
        rw [hub] at HRN
        go_upto_region 6 with fail
        go_upto_region 7 with (first
          | (refine wpLdD rfl _ rfl rfl HII.out.var.blk ?_)
          | (go_at_call 53; refine HOF.out.mono ?_; rintro e w5 ⟨rfl, hb5⟩))
        have hb6 := bel hb5 (belNew w5 (rtO ua))
        have HI6 := Lib.hid (HII.out.later hb6)
        change Code.wp _ _ _ _ (w5.alloc (rtO ua))
        generalize w5.alloc (rtO ua) = w6 at *
        clear hb5 hb6 hub q0
        go_wp2_with fail
        go_roundw
        case rel =>
          have hrf := HRN.out.trans (if_neg (by decide))
          exact ⟨n + 1, HLT.out, by go_num, by rw [hrf]; exact Lib.hid ⟨_, _, rfl⟩, by rw [hrf]; exact Lib.hid ⟨_, _, _, HI6.out⟩⟩
        case measure => simp [intOf]; have := HLT.out; omega
      | true =>
        rw [hub] at HOF
        rw [hub] at HRN
        have hund : inB c.addr x = true ∧ c.sl.getD (x - c.addr).toNat 0 ≠ 0 := und_in hub
        go_upto_region 6 with fail
        go_upto_region 7 with (first
          | (refine wpLdD rfl _ rfl rfl HII.out.var.blk ?_)
          | (go_at_call 53; refine HOF.out.mono ?_; rintro e w5 ⟨rfl, hb5⟩))
        have hb6 := bel hb5 (belNew w5 (rtO ua))
        have HI6 := Lib.hid (HII.out.later hb6)
        change Code.wp _ _ _ _ (w5.alloc (rtO ua))
        generalize w5.alloc (rtO ua) = w6 at *
        clear hb5 hb6 hub q0 HII
        obtain ⟨gs, ds, es, hgB, hgl⟩ := row_own HI6.out.var.slots (by intro e; have := HI4.out; rw [e] at this; cases this)
        obtain ⟨rfl, rfl⟩ : s1 = some ⟨gs, 0, none⟩ ∧ e1 = ds := by cases es; exact ⟨rfl, rfl⟩
        have hin := inB_iff.1 hund.1
        obtain ⟨i, hxi⟩ : ∃ i : Nat, x - c.addr = (i : Int) := ⟨(x - c.addr).toNat, by omega⟩
        have hi64 : i < 64 := by omega
        have hmi : x % 64 = (i : Int) := by omega
        have HDR : Hid (drpS c x = ⟨c.addr, c.aff, c.sl.set i 0, c.free ++ [(i : Int)], c.attrs⟩) := Lib.hid (by unfold drpS; rw [hxi, Int.toNat_natCast])
        have hx0 : 0 ≤ x := HXB.out.1
        have t1 : x.tmod 64 = (i : Int) := by rw [Int.tmod_eq_emod_of_nonneg hx0, hmi]
        have t2 : IntKind.u32.wrap (i : Int) = (i : Int) := IntWalk.u32_in _ (by omega)
        have t3 : IntKind.i64.wrap (i : Int) = (i : Int) := IntWalk.i64_in _ (by omega)
        obtain ⟨z, hz⟩ : ∃ z, c.sl[i]? = some z := ⟨_, List.getElem?_eq_getElem (by rw [HI4.out]; exact hi64)⟩
        obtain ⟨xb, exb, -, hxb2⟩ := HI6.out.var.sees.slots.at hz
        obtain rfl : xb = ⟨gs, 0, none⟩ := (Option.some.inj exb).symm
        have q1 : w6.cell? ((⟨gs, 0, none⟩ : Addr).add (i * 1)) = some (.int .i64 z) := hxb2 0 _ rfl
        rw [Nat.mul_one, add0] at q1
        have f0 : w6.frozen? ⟨gs, i, none⟩ = false := frozenS HI6.out.var.slots i
        have bi0 : (0 : Int) ≤ (i : Int) := by omega
        have bi1 : (i : Int) < (c.sl.length : Int) := by rw [HI4.out]; omega
        have HGS := Lib.hid hgB
        obtain ⟨k0, k1, k2, k3, k4⟩ := HI6.out.var.blk.cells
        clear hund hin hxi hi64 hmi hx0 hz exb hxb2 es hgB hgl
        go_upto_region 9 with fail
        have HI7 : Hid (RlI w B ⟨c.addr, c.aff, c.sl.set i 0, c.free, c.attrs⟩ (.slice (some ⟨gs, 0, none⟩) c.sl.length e1) (.slice s2 c.free.length e2) (.slice s3 c.attrs.length e3) (.slice uo L.length uc) L (w6.setCell ⟨gs, i, none⟩ (.int .i64 0))) := Lib.hid (by
          have hv := HI6.out
          obtain ⟨r1, hg⟩ := RowI1.stored hv.var.slots i 0
          have hbs := hv.base
          have hgs := HGS.out
          exact ⟨⟨hv.var.blk.setO (p := ⟨gs, i, none⟩) (by show w.heap.size ≠ gs; omega) _, r1, own_grownO hv.var.free hg (fun d hd e => hv.var.ne d (by rw [← e]; rfl) hd), own_grownO hv.var.attrs hg (fun d hd e => own_ne hv.var.slots hv.var.attrs (by decide) d (by rw [← e]; rfl) hd), hv.var.ne⟩, hv.zero.setO (p := ⟨gs, i, none⟩) (by show w.heap.size + 1 ≠ gs; omega) _, hv.below.setCell (p := ⟨gs, i, none⟩) (by show w.heap.size ≤ gs; omega) _, hv.base, Nat.le_trans hv.size (size_set (Nat.le_refl _) _ _), own_grownO hv.told hg (fun d hd e => own_ne hv.var.slots hv.told (by decide) d (by rw [← e]; rfl) hd)⟩)
        change Code.wp _ _ _ _ (w6.setCell ⟨gs, i, none⟩ (.int .i64 0))
        generalize w6.setCell ⟨gs, i, none⟩ (.int .i64 0) = w7 at HI7 ⊢
        clear q1 f0 k0 k1 k2 k3 k4 HI6
        obtain ⟨k0, k1, k2, k3, k4⟩ := HI7.out.var.blk.cells
        have HWB : Hid (w.heap.size + 1 < B) := Lib.hid (by have := HI7.out.base; omega)
        have hl1 : (c.free ++ [(i : Int)]).length = c.free.length + 1 := by simp
        have hl2 : (L ++ [x]).length = L.length + 1 := by simp
        go_upto_region 10 with (at_builtin; refine wpList_pushG (w0 := w7) (T := 32) (E := 3) (enc := encI1) Tryz.underlying32 infoI rfl (by decide) (by decide) (fun _ => rfl) encI1_one rfl (.tmp 33) (.tmp 37) rfl B (.slice s2 c.free.length e2) c.free (i : Int) w7.heap.size rfl rfl rfl HI7.out.var.free (by have := HI67.out.1; omega) HI7.out.size ?_; intro v8 w8 ho8 hb8 hg8 hat8; obtain ⟨o8, d8, rfl⟩ := ho8.slice; have H8 := Lib.hid (And.intro ho8 (And.intro hb8 (And.intro hg8 hat8))); have m3 := (HI7.out.var.blk.keepB hb8 (by have := HWB.out; omega)).cells.2.2.2.1; have f3 := (HI7.out.var.blk.keepB hb8 (by have := HWB.out; omega)).froz 3; clear ho8 hb8 hg8 hat8)
        have HI9 : Hid (RlI w B (drpS c x) (.slice (some ⟨gs, 0, none⟩) c.sl.length e1) (.slice o8 (c.free.length + 1) d8) (.slice s3 c.attrs.length e3) (.slice uo L.length uc) L (w8.setCell ⟨w.heap.size, 3, none⟩ (.slice o8 (c.free.length + 1) d8))) := Lib.hid (by
          obtain ⟨r8, hb8, hg8, hat8⟩ := H8.out
          rw [hl1] at r8 hat8
          have hv := HI7.out
          have hbs := hv.base
          rw [HDR.out]
          have hlt : (⟨w.heap.size, 3, none⟩ : Addr).block < B := by show w.heap.size < B; omega
          refine ⟨⟨(hv.var.blk.keepB hb8 (by omega)).set3 _, own_set (own_grownO hv.var.slots hg8 (fun d hd e => hv.var.ne d hd e)) hlt _, own_set r8 hlt _, own_set (own_grownO hv.var.attrs hg8 (fun d hd e => own_ne hv.var.free hv.var.attrs (by decide) d e hd)) hlt _, fun d hd hd2 => ?_⟩, (hv.zero.keepB hb8 (by omega)).setO (p := ⟨w.heap.size, 3, none⟩) (by show w.heap.size + 1 ≠ w.heap.size; omega) _, (hv.below.trans (hb8.mono (by omega))).setCell (p := ⟨w.heap.size, 3, none⟩) (Nat.le_refl _) _, hv.base, Nat.le_trans hv.size (Nat.le_trans hb8.size (size_set (Nat.le_refl _) _ _)), own_set (own_grownO hv.told hg8 (fun d hd e => own_ne hv.var.free hv.told (by decide) d e hd)) hlt _⟩
          rcases hat8 with e | e
          · exact hv.var.ne d hd (e.symm.trans hd2)
          · have h1 := (World.ownsRow.lt hv.var.slots d hd).2
            have h2 := Option.some.inj (e.symm.trans hd2)
            omega)
        change Code.wp _ _ _ _ (w8.setCell ⟨w.heap.size, 3, none⟩ (.slice o8 (c.free.length + 1) d8))
        generalize w8.setCell ⟨w.heap.size, 3, none⟩ (.slice o8 (c.free.length + 1) d8) = w9 at HI9 ⊢
        clear m3 f3 k0 k1 k2 k3 k4 HI7 H8 hl1
        go_wp2_with (at_builtin; refine wpList_pushG (w0 := w9) (T := 39) (E := 22) (enc := encU1) Tryz.underlying39 infoU rfl (by decide) (by decide) (fun _ => rfl) encU1_one rfl (.tmp 40) (.tmp 42) rfl B (.slice uo L.length uc) L x w9.heap.size rfl rfl rfl HI9.out.told (by have := HI67.out.2; omega) HI9.out.size ?_; intro v10 w10 ho10 hb10 hg10 hat10; obtain ⟨o10, d10, rfl⟩ := ho10.slice; have H10 := Lib.hid (And.intro ho10 (And.intro hb10 hg10)); clear ho10 hb10 hg10 hat10)
        go_roundw
        case rel =>
          have hrt := HRN.out.trans (if_pos (by trivial))
          obtain ⟨r10, hb10, hg10⟩ := H10.out
          rw [hl2] at r10
          have hv := HI9.out
          have hbs := hv.base
          have hsl : ∃ o c2, Value.slice o10 (L.length + 1) d10 = .slice o (L ++ [x]).length c2 := ⟨o10, d10, by rw [hl2]⟩
          refine ⟨n + 1, HLT.out, by go_num, by rw [hrt]; exact Lib.hid hsl, ?_⟩
          rw [hrt]
          exact Lib.hid ⟨_, _, _, ⟨hv.var.blk.keepB hb10 (by omega), own_grownO hv.var.slots hg10 (fun d hd e => own_ne hv.var.slots hv.told (by decide) d hd e), own_grownO hv.var.free hg10 (fun d hd e => own_ne hv.var.free hv.told (by decide) d hd e), own_grownO hv.var.attrs hg10 (fun d hd e => own_ne hv.var.attrs hv.told (by decide) d hd e), hv.var.ne⟩, hv.zero.keepB hb10 (by omega), hv.below.trans (hb10.mono (by omega)), hv.base, Nat.le_trans hv.size hb10.size, r10⟩
        case measure => simp [intOf]; have := HLT.out; omega
    · obtain rfl : n = l.length := by omega
      have dd : decide ((l.length : Int) < (l.length : Int)) = false := by simp
      have hat := (HINV.out l.length).2.2.1
      have had := (HINV.out l.length).1
      have haf := (HINV.out l.length).2.1
      have HAD : Hid ((tidS (relN (fun _ => true) b l l.length).1).addr = b.addr ∧ (tidS (relN (fun _ => true) b l l.length).1).aff = b.aff) := Lib.hid ⟨had, haf⟩
      have HTL : Hid ((relN (fun _ => true) b l l.length).2.length ≤ 64) := Lib.hid (by have := (HINV.out l.length).2.2.2.2.2.2; have := HLN.out.1; have := HLN.out.2.2.2.2.1; omega)
      have HI0 : Hid (RlI w B (relN (fun _ => true) b l l.length).1 (.slice s1 (relN (fun _ => true) b l l.length).1.sl.length e1) (.slice s2 (relN (fun _ => true) b l l.length).1.free.length e2) (.slice s3 (relN (fun _ => true) b l l.length).1.attrs.length e3) (.slice uo (relN (fun _ => true) b l l.length).2.length uc) (relN (fun _ => true) b l l.length).2 wr) := Lib.hid hI
      have HT0 : Hid (TdI (tidS (relN (fun _ => true) b l l.length).1) (relN (fun _ => true) b l l.length).1.attrs.length (relN (fun _ => true) b l l.length).1) := Lib.hid (by rw [hat]; exact HBT.out)
      have k4 := hI.var.blk.cells.2.2.2.2
      have hal64 := HT0.out.at64
      have sm : IntKind.i64.wrap (((relN (fun _ => true) b l l.length).1.attrs.length : Int) - 1) = ((relN (fun _ => true) b l l.length).1.attrs.length : Int) - 1 := IntWalk.i64_in _ (by omega)
      generalize (relN (fun _ => true) b l l.length).1.attrs.length = al at *
      clear hI HE HF hat had haf HBT hal64
      go_wp2_with fail
      go_loopw [11] (fun j wr => ∃ k : Nat, j = .int .i64 ((k : Int) - 1) ∧ Hid (∃ c v1 v2 v3, TdI (tidS (relN (fun _ => true) b l l.length).1) k c ∧ RlI w B c v1 v2 v3 (.slice uo (relN (fun _ => true) b l l.length).2.length uc) (relN (fun _ => true) b l l.length).2 wr)) (fun j _ => (intOf j + 1).toNat)
      case atStart => exact ⟨al, rfl, Lib.hid ⟨_, _, _, _, HT0.out, HI0.out⟩⟩
      case round =>
        clear HI0 HT0 k4 sm
        obtain ⟨k, hj, HE⟩ := hrel
        obtain ⟨c, v1, v2, v3, hT, hI⟩ := HE.out
        obtain ⟨s1, e1, rfl⟩ := hI.var.slots.slice
        obtain ⟨s2, e2, rfl⟩ := hI.var.free.slice
        obtain ⟨s3, e3, rfl⟩ := hI.var.attrs.slice
        have HII := Lib.hid hI
        clear HE
        cases k with
        | zero =>
          subst hj
          have d0 : decide ((0 : Int) ≤ ((0 : Nat) : Int) - 1) = false := by decide
          have hTc : c = tidS (relN (fun _ => true) b l l.length).1 := hT.tid
          have HTC := Lib.hid hTc
          clear hI hT hTc
          go_wp2_with (first
            | (refine wpLdD rfl _ rfl rfl HII.out.var.blk ?_)
            | (refine wpStD (y := c.addr) (s := c.aff) rfl _ _ rfl rfl rfl HII.out.zero rfl rfl rfl ?_; intro w9 hx9 hg9))
          have hv := HII.out
          have hlt9 : w.heap.size + 1 < B := by have := hv.base; omega
          have hwB : w.heap.size ≤ B := by omega
          have ha1 : c.addr = b.addr := by rw [HTC.out]; exact HAD.out.1
          have ha2 : c.aff = b.aff := by rw [HTC.out]; exact HAD.out.2
          refine bodyPost_ret (resB2 rfl rfl (loadVarD hx9)) rfl ⟨(.slice s1 c.sl.length e1), (.slice s2 c.free.length e2), (.slice s3 c.attrs.length e3), (.slice uo (relN (fun _ => true) b l l.length).2.length uc), ?_, ?_, ?_⟩
          · rw [ha1, ha2]
            rfl
          · rw [← HTC.out]
            exact ⟨RowG.le (own_grown hv.var.slots hg9 hlt9) hwB, RowG.le (own_grown hv.var.free hg9 hlt9) hwB, RowG.le (own_grown hv.var.attrs hg9 hlt9) hwB, hv.below.grown hg9 hv.below.size (fun d hd => by cases hd; omega), hv.var.ne⟩
          · exact RowG.le (own_grown hv.told hg9 hlt9) hwB
        | succ k =>
          have ej : (((k + 1 : Nat) : Int) - 1) = (k : Int) := by omega
          rw [ej] at hj
          subst hj
          have HT1 := Lib.hid hT
          have HTS := Lib.hid hT.step
          have hk64 := Nat.le_trans hT.le hT.at64
          have s1k : IntKind.i64.wrap ((k : Int) + 1) = (k : Int) + 1 := IntWalk.i64_in _ (by omega)
          have s2k : IntKind.i64.wrap ((k : Int) - 1) = (k : Int) - 1 := IntWalk.i64_in _ (by omega)
          have d0 : decide ((0 : Int) ≤ (k : Int)) = true := by simp
          have HCN := Lib.hid (refCount_any (.slice s1 c.sl.length e1) c.sl ((k : Int) + 1) wr hI.var.sees.slots.cnt (by rw [hT.len]; omega))
          have HDP := Lib.hid (docDrop_any c (.slice s1 c.sl.length e1) (.slice s2 c.free.length e2) (.slice s3 c.attrs.length e3) k wr hI.var.sees hT.len hT.le (by have := hT.fr; omega) (by have := hT.at64; omega) hT.ok)
          obtain ⟨k0, k1, k2, k3, k4⟩ := hI.var.blk.cells
          clear hI hT hk64 ej
          by_cases h0 : cntN c.sl ((k : Int) + 1) = 0
          · rw [if_pos h0] at HTS
            rw [h0] at HCN
            clear h0
            go_upto_region 16 with (go_at_call 57; refine HCN.out.mono ?_; rintro e wq ⟨rfl, hqq⟩; subst hqq)
            go_wp2_with (first
              | (refine wpLdD rfl _ rfl rfl HII.out.var.blk ?_)
              | (go_at_call 58; refine HDP.out.mono ?_; rintro e w5 ⟨u1, u2, u3, rfl, ho⟩; obtain ⟨p1, r1, rfl⟩ := ho.slots.slice; obtain ⟨p2, r2, rfl⟩ := ho.free.slice; obtain ⟨p3, r3, rfl⟩ := ho.attrs.slice; have HO := Lib.hid ho; have HX5 := Lib.hid (HII.out.var.blk.below ho.below); clear ho)
              | (refine wpStD (y := c.addr) (s := c.aff) rfl _ _ rfl rfl rfl HX5.out rfl rfl rfl ?_; intro w6 hx6 hg6))
            go_roundw
            case rel =>
              have hv := HII.out
              have ho := HO.out
              have hbs := hv.base
              have hsz := hv.size
              have hs5 := ho.below.size
              have hgr : w.heap.size < wr.heap.size := by omega
              have hgB : w.heap.size < B := by omega
              refine ⟨k, by go_num, Lib.hid ⟨dropS c k, _, _, _, HTS.out, ⟨hx6, RowG.le (own_grown ho.slots hg6 hgr) hsz, RowG.le (own_grown ho.free hg6 hgr) hsz, RowG.le (own_grown ho.attrs hg6 hgr) hsz, ho.ne⟩, ?_, ?_, hv.base, Nat.le_trans hsz (Nat.le_trans hs5 hg6.size), own_grown (own_keep hv.told ho.below) hg6 hgB⟩⟩
              · exact (hg6.block _ (by omega) (fun e => by have h1 := Option.some.inj e; omega)).trans ((ho.below.block _ (by omega)).trans hv.zero)
              · exact (hv.below.trans (ho.below.mono hv.below.size)).grown hg6 (by omega) (fun d hd => by cases hd; omega)
            case measure => simp [intOf]
          · rw [if_neg h0] at HTS
            have dc : ((cntN c.sl ((k : Int) + 1)) == (0 : Int)) = false := by simpa using h0
            have dc2 : decide (cntN c.sl ((k : Int) + 1) = 0) = false := decide_eq_false h0
            generalize cntN c.sl ((k : Int) + 1) = cn at *
            go_upto_region 14 with (go_at_call 57; refine HCN.out.mono ?_; rintro e wq ⟨rfl, hqq⟩; subst hqq)
            go_wp2_with fail
            go_roundw
            case rel => exact ⟨k, by go_num, Lib.hid ⟨c, _, _, _, HTS.out, HII.out⟩⟩
            case measure => simp [intOf]
end
section
open Go.RowKit
theorem flat_U1 : ∀ xs : List Int, xs.flatMap encU1 = cellsU xs
  | [] => rfl
  | a :: l => by
    rw [List.flatMap_cons, flat_U1 l]
    rfl
theorem OwnsU.row {w : World} {B : Nat} {v : Value} {xs : List Int} (h : OwnsU w B v xs) : RowU1 w B v xs := by
  show World.ownsRow _ _ _ _ _ _ _
  rw [flat_U1]
  exact h
theorem SeesG.toU {w : World} {v : Value} {xs : List Int} (h : SeesG 1 encU1 w v xs) : SeesU w v xs := by
  obtain ⟨ao, c, rfl, h1, h2, h3⟩ := h
  refine ⟨ao, c, rfl, h1, h2, fun a ha i hi => ?_⟩
  have hp : xs[i]? = some (xs.getD i 0) := by rw [List.getD_eq_getElem?_getD, List.getElem?_eq_getElem hi]; rfl
  have h4 := h3 a ha i _ hp 0 _ rfl
  rw [Nat.mul_one] at h4
  exact h4
theorem SeesU.toG {w : World} {v : Value} {xs : List Int} (h : SeesU w v xs) : SeesG 1 encU1 w v xs := by
  obtain ⟨ao, c, rfl, h1, h2, h3⟩ := h
  refine ⟨ao, c, rfl, h1, h2, fun a ha i p hp => ?_⟩
  obtain ⟨hi, hx⟩ := List.getElem?_eq_some_iff.1 hp
  have h4 := h3 a ha i hi
  have h5 : xs.getD i 0 = p := by rw [List.getD_eq_getElem?_getD, hp]; rfl
  rw [h5] at h4
  intro j u hj
  cases j with
  | zero =>
    obtain rfl : Value.int .u32 p = u := by simpa [encU1] using hj
    rw [Nat.mul_one]
    exact h4
  | succ j => simp [encU1] at hj
/-- Assign of any number: right, well. -/
theorem giv_ok {b : BlkS} (hw : BWf b) (hr : rightB b = true) {a : PA} (hm : mayP a = true) (n : Nat) : rightB (givS b (b.free.take n) a) = true ∧ BWf (givS b (b.free.take n) a) := by
  have e : b.free.take n = b.free.take (min n b.free.length) := by
    rcases Nat.le_total n b.free.length with h | h
    · rw [Nat.min_eq_left h]
    · rw [Nat.min_eq_right h, List.take_of_length_le h, List.take_of_length_le (Nat.le_refl _)]
  rw [e]
  have h := giv_all hw hr hm (min n b.free.length) (Nat.min_le_right _ _)
  exact ⟨h.1, h.2.1⟩
/-- AssignAt of an address of the block's that is free: the document's, right, well. -/
theorem at_ok {b : BlkS} (hw : BWf b) (hr : rightB b = true) {a : PA} (hm : mayP a = true) {x : Int} (hin : inB b.addr x = true) (hz : b.sl.getD (x - b.addr).toNat 0 = 0) : dvS b (x % 64) a = givS b [x - b.addr] a ∧ rightB (givS b [x - b.addr] a) = true ∧ BWf (givS b [x - b.addr] a) := by
  have hi := inB_iff.1 hin
  have h64 := (right_bd hw hr).1
  have e : x % 64 = x - b.addr := by omega
  have hlt : 0 ≤ x - b.addr ∧ x - b.addr < 64 := by omega
  have e1 := givS_one hw.2.1 hr a (x - b.addr) hlt
  have hf : x - b.addr ∈ b.free := by
    obtain ⟨-, -, -, -, h5, -⟩ := (right_iff b hw.2.1).1 hr
    have h6 := (h5 (x - b.addr).toNat (by omega)).2
    rw [if_pos hz] at h6
    rw [show (((x - b.addr).toNat : Nat) : Int) = x - b.addr by omega] at h6
    exact cnt_pos.1 (by rw [h6]; decide)
  rw [e, e1]
  exact ⟨rfl, dv_right hw.2.1 hw.2.2.1 hr hf hm, dv_wf hw hr hf hm⟩
/-- Own of another owner: right, well. -/
theorem own_ok {b : BlkS} (hw : BWf b) (hr : rightB b = true) {s : ByteArray} (hs : s.size ≤ maxLen) (hm : ownB s = true) : rightB (ownS b s) = true ∧ BWf (ownS b s) := by
  obtain ⟨h1, h2, h3, h4, h5, h6⟩ := (right_iff b hw.2.1).1 hr
  exact ⟨(right_iff (ownS b s) hw.2.1).2 ⟨h1, hm, h3, h4, h5, h6⟩, ⟨hw.1, hw.2.1, hw.2.2.1, hw.2.2.2.1, hs, hw.2.2.2.2.2⟩⟩
end
section
open Go.RowKit
theorem five_newB (w : World) (o p q r s : Obj) : ∃ W, W = ((((w.alloc o).alloc p).alloc q).alloc r).alloc s ∧ Below w.heap.size w W ∧ W.heap[w.heap.size]? = some o ∧ W.heap[w.heap.size + 1]? = some p ∧ W.heap[w.heap.size + 2]? = some q ∧ W.heap[w.heap.size + 3]? = some r ∧ W.heap[w.heap.size + 4]? = some s ∧ W.heap.size = w.heap.size + 5 := by
  obtain ⟨h1, h2, h3, h4, h5⟩ := three_newB w o p q
  obtain ⟨k1, k2, k3, k4⟩ := two_newB (((w.alloc o).alloc p).alloc q) r s
  rw [h5] at k2 k3 k4
  exact ⟨_, rfl, bel h1 k1, (k1.block _ (heap_lt h2)).trans h2, (k1.block _ (heap_lt h3)).trans h3, (k1.block _ (heap_lt h4)).trans h4, k2, k3, k4⟩
/-- The variables of the laws' assign (and of Do), a block in both forms. -/
structure AsV (w : World) (c : BlkS) (fv av v1 v2 v3 : Value) (a : PA) (X : World) : Prop where
  ours : VarB X w.heap.size c fv av
  doc : DocAt X (w.heap.size + 1) c.addr c.aff v1 v2 v3
  sees : DocSees X c.sl c.free c.attrs v1 v2 v3
  attr : X.heap[w.heap.size + 2]? = some (rtO a)
  zb : BlkAt X (w.heap.size + 3) zB NS NS
  zd : DocAt X (w.heap.size + 4) 0 ⟨#[]⟩ NS NS NS
  below : Below w.heap.size w X
  size : w.heap.size + 5 ≤ X.heap.size
theorem AsV.later {w : World} {c : BlkS} {fv av v1 v2 v3 : Value} {a : PA} {X Y : World} (h : AsV w c fv av v1 v2 v3 a X) (hb : Below X.heap.size X Y) : AsV w c fv av v1 v2 v3 a Y :=
  ⟨h.ours.below hb, h.doc.below hb, h.sees.below hb, (hb.block _ (heap_lt h.attr)).trans h.attr, h.zb.below hb, h.zd.below hb, h.below.trans (hb.mono h.below.size), Nat.le_trans h.size hb.size⟩
theorem AsV.new (w : World) (c : BlkS) (fv av v1 v2 v3 : Value) (a : PA) (hf : Sees w fv c.free) (ha : SeesA w av c.attrs) (hd : DocSees w c.sl c.free c.attrs v1 v2 v3) :
    AsV w c fv av v1 v2 v3 a (((((w.alloc (blkO c fv av)).alloc (docO c.addr c.aff v1 v2 v3)).alloc (rtO a)).alloc (blkO zB NS NS)).alloc (docO 0 ⟨#[]⟩ NS NS NS)) := by
  obtain ⟨W, rfl, hb, h0, h1, h2, h3, h4, hs⟩ := five_newB w (blkO c fv av) (docO c.addr c.aff v1 v2 v3) (rtO a) (blkO zB NS NS) (docO 0 ⟨#[]⟩ NS NS NS)
  exact ⟨⟨h0, hf.keep hb, ha.below hb⟩, h1, hd.below hb, h2, h3, h4, hb, Nat.le_of_eq hs.symm⟩
/-- A block in both forms, right and well: what the laws' steps hand on. -/
structure Both (w : World) (c : BlkS) (fv av v1 v2 v3 : Value) : Prop where
  free : Sees w fv c.free
  attrs : SeesA w av c.attrs
  doc : DocSees w c.sl c.free c.attrs v1 v2 v3
  wf : BWf c
  right : rightB c = true
theorem Both.below {w w' : World} {c : BlkS} {fv av v1 v2 v3 : Value} (h : Both w c fv av v1 v2 v3) (hb : Below w.heap.size w w') : Both w' c fv av v1 v2 v3 := ⟨h.free.keep hb, h.attrs.below hb, h.doc.below hb, h.wf, h.right⟩
end
end Go.Proofs.YtgodmnpcedfdcaaGreat
