/- The laws' ours: what is asked, as the program's and the document's. -/
import Derived.Test.YtholgmcfgnifdaaMh
namespace Go.Proofs.Ytholgmcfgnifdaa
open Go.RowKit Go.Maps
abbrev RowO (E : TypeId) (w : World) (B : Nat) (v : Value) (os : List KOp) : Prop := RowG E 6 encO w B v os
theorem infoO : (Try.prog.info? 37).map (fun i => (i.zero, i.size, i.bytes)) = some (some (opV opZ), 6, 72) := by kernel_rfl
theorem infoOR : (Try.prog.info? 40).map (fun i => (i.zero, i.size, i.bytes)) = some (some (opV opZ), 6, 72) := by kernel_rfl
theorem RowG.ne {α β : Type} {E F : TypeId} {s t : Nat} {enc : α → List Value} {enc' : β → List Value} {w : World} {B C : Nat} {v u : Value} {L : List α} {M : List β} (h : RowG E s enc w B v L) (k : RowG F t enc' w C u M) (hE : E ≠ F) : ∀ d, v.ownBlock = some d → u.ownBlock ≠ some d := by
  intro d hd hd'
  rcases h.2 with ⟨e, _⟩ | ⟨g, cap, cur, e, _, hb, _⟩
  · rw [e] at hd; cases hd
  rcases k.2 with ⟨e', _⟩ | ⟨g', cap', cur', e', _, hb', _⟩
  · rw [e'] at hd'; cases hd'
  rw [e] at hd
  rw [e'] at hd'
  have h1 : g = d := Option.some.inj hd
  have h2 : g' = d := Option.some.inj hd'
  subst h1
  subst h2
  rw [hb] at hb'
  injection hb' with q
  injection q with _ q2
  exact hE q2
def oursL (os : List KOp) : List KOp := (os.take 20).map ours
theorem oursL_snoc {os : List KOp} {i : Nat} (h : i < os.length) (hi : i < 20) : oursL (os.take (i + 1)) = oursL (os.take i) ++ [ours (os.getD i default)] := by
  unfold oursL
  rw [List.take_take, List.take_take, Nat.min_eq_right (by omega), Nat.min_eq_right (by omega), List.take_add_one, List.getD_eq_getElem?_getD, List.getElem?_eq_getElem h, Option.toList_some, List.map_append]
  rfl
theorem oursL_more {os : List KOp} {i : Nat} (hi : 20 ≤ i) : oursL (os.take (i + 1)) = oursL (os.take i) := by
  unfold oursL
  rw [List.take_take, List.take_take, Nat.min_eq_left (by omega), Nat.min_eq_left (by omega)]
theorem oursL_all (os : List KOp) : oursL (os.take os.length) = oursL os := by rw [List.take_length]
theorem oursL_len (os : List KOp) : (oursL os).length ≤ 20 := by unfold oursL; rw [List.length_map, List.length_take]; omega
set_option maxRecDepth 100000 in
set_option maxHeartbeats 4000000 in
theorem ours19_any (w : World) (v : Value) (os : List KOp) (h : ArgOps9 w v os) : Calls Try.prog 6 #[v] w fun e w' => ∃ ov wv, e = .returned (.tuple #[ov, wv]) ∧ RowO 37 w' w.heap.size ov (oursL os) ∧ RowO 40 w' w.heap.size wv (oursL os) ∧ Below w.heap.size w w' := by
  obtain ⟨⟨ao, c, rfl, hlc, hnil, hc⟩, hok, hlm⟩ := h
  have HC := Lib.hid (And.intro hnil (And.intro hc hok))
  have hlm2 : os.length ≤ 9223372036854775807 := by unfold maxLen at hlm; omega
  clear hnil hc hok hlm
  go_enter Try.func6, Try.ntmps6
  go_wp2_with fail
  go_loopw [4, 5, 12] (fun x y j wr => ∃ (i : Nat) (oo : Option Addr) (on oc : Nat) (po : Option Addr) (pn pc : Nat), i ≤ os.length ∧ x = .slice oo on oc ∧ y = .slice po pn pc ∧ j = .int .i64 i ∧ Hid (RowO 37 wr w.heap.size (.slice oo on oc) (oursL (os.take i)) ∧ RowO 40 wr w.heap.size (.slice po pn pc) (oursL (os.take i)) ∧ Below w.heap.size w wr)) (fun _ _ j _ => os.length - (intOf j).toNat)
  case atStart => exact ⟨0, none, 0, 0, none, 0, 0, Nat.zero_le _, rfl, rfl, rfl, Lib.hid ⟨RowG.nil _ _ _ _ _, RowG.nil _ _ _ _ _, Below.refl _ _⟩⟩
  case round =>
    obtain ⟨i, oo, on, oc, po, pn, pc, hi, rfl, rfl, rfl, HI⟩ := hrel
    by_cases hlt : i < os.length
    · obtain ⟨a, rfl⟩ : ∃ a, ao = some a := by
        cases ao with
        | none => rw [HC.out.1 rfl] at hlt; simp at hlt
        | some a => exact ⟨a, rfl⟩
      have hop := HC.out.2.1 a rfl i hlt
      have HEQ := Lib.hid (fun h20 => oursL_snoc hlt h20)
      have HEM := Lib.hid (fun h20 => oursL_more (os := os) (i := i) h20)
      generalize os.getD i default = o at hop HEQ
      obtain ⟨q0, q1, q2, q3, q4, q5⟩ := hop
      have hb := HI.out.2.2
      have q0 := bcell hb q0
      have q1 := off1 (bcell hb q1)
      have q2 := off2 (bcell hb q2)
      have q3 := off3 (bcell hb q3)
      have q4 := off4 (bcell hb q4)
      have q5 := off5 (bcell hb q5)
      have b0 : (0 : Int) ≤ (i : Int) := by omega
      have b1 : (i : Int) < (os.length : Int) := by omega
      have HLT := Lib.hid hlt
      clear hb hlt
      by_cases h20 : i < 20
      · have d1 : decide ((i : Int) < 20) = true := by simp; omega
        have HO := Lib.hid (ours_any o)
        have heq := HEQ.out h20
        generalize ours o = x at HO heq
        have HEQ2 := Lib.hid heq
        clear heq HEQ HEM
        go_upto_region 8 with (go_at_call 11; refine (HO.out _).mono ?_; rintro e w2 ⟨rfl, hb2⟩)
        obtain ⟨W6, hW6, hb6, hz6, h7, h8⟩ := two_new w2 (opO x) (opR x)
        change Code.wp _ _ _ _ ((w2.alloc (opO x)).alloc (opR x))
        rw [← hW6]
        obtain ⟨b7, hb7⟩ : ∃ b7, b7 = w2.heap.size := ⟨_, rfl⟩
        rw [← hb7] at h7 h8 hz6 ⊢
        have hb26 : Below wr.heap.size wr W6 := bel (bel (belNew wr (opR o)) hb2) hb6
        have hle7 : wr.heap.size ≤ b7 := by rw [hb7]; exact (bel (belNew wr (opR o)) hb2).size
        obtain ⟨k0, k1, k2, k3, k4, k5⟩ := opcells h7
        have HA := Lib.hid (And.intro (HI.out.1.below hb26) (And.intro (HI.out.2.1.below hb26) (And.intro (HI.out.2.2.trans (hb26.mono HI.out.2.2.size)) (And.intro h8 (And.intro hle7 (And.intro (fun d hd => (HI.out.1.form d hd).2) (fun d hd => (HI.out.2.1.form d hd).2)))))))
        have hl20 : (oursL (os.take i)).length ≤ 20 := oursL_len _
        have HZ6 := Lib.hid hz6
        clear hz6 hW6 hb6 h7 h8 hb7 hb26 hle7 hb2 q0 q1 q2 q3 q4 q5 HO HI
        go_upto_region 9 with (at_builtin; refine wpList_pushG (w0 := W6) (T := 24) (E := 37) (enc := encO) Try.underlying24 infoO rfl (by decide) (by decide) encO_len encO_one rfl (.tmp 24) (.tmp 26) rfl w.heap.size (.slice oo on oc) (oursL (os.take i)) x W6.heap.size rfl rfl rfl HA.out.1 (by omega) HA.out.2.2.1.size ?_; intro v8 w8 hrow8 hb8 hg8 _)
        have hbb := hb8
        have hnb : ∀ d, d < W6.heap.size → wr.heap.size ≤ d → w8.heap[d]? = W6.heap[d]? := fun d hd hw => hg8.block d hd (fun e => by have := HA.out.2.2.2.2.2.1 d e.symm; omega)
        have h8n := (hnb _ (heap_lt HA.out.2.2.2.1) (by have := HA.out.2.2.2.2.1; omega)).trans HA.out.2.2.2.1
        have hrw8 : RowO 40 w8 w.heap.size (.slice po pn pc) (oursL (os.take i)) := HA.out.2.1.keep (fun d hd hlt => hg8.block d hlt (fun e => RowG.ne HA.out.1 HA.out.2.1 (by decide) d e.symm hd))
        obtain ⟨oo8, oc8, rfl⟩ := hrow8.slice
        obtain ⟨k0, k1, k2, k3, k4, k5⟩ := opcells h8n
        have HD := Lib.hid (And.intro hrow8 (And.intro hrw8 (HA.out.2.2.1.trans (hbb.mono (Nat.le_refl _)))))
        generalize (oursL (os.take i) ++ [x]).length = N8 at HD ⊢
        clear hbb hnb h8n hrw8 hrow8 hb8 hg8 HA HZ6
        go_upto_region 10 with (at_builtin; refine wpList_pushG (w0 := w8) (T := 22) (E := 40) (enc := encO) Try.underlying22 infoOR rfl (by decide) (by decide) encO_len encO_one rfl (.tmp 28) (.tmp 30) rfl w.heap.size (.slice po pn pc) (oursL (os.take i)) x w8.heap.size rfl rfl rfl HD.out.2.1 (by omega) HD.out.2.2.size ?_; intro v9 w9 hrow9 hb9 hg9 _)
        have hro9 : RowO 37 w9 w.heap.size (.slice oo8 N8 oc8) (oursL (os.take i) ++ [x]) := HD.out.1.keep (fun d hd hlt => hg9.block d hlt (fun e => RowG.ne HD.out.1 HD.out.2.1 (by decide) d hd e.symm))
        obtain ⟨po9, pc9, rfl⟩ := hrow9.slice
        have HE := Lib.hid (And.intro hro9 (And.intro hrow9 (HD.out.2.2.trans (hb9.mono (Nat.le_refl _)))))
        generalize (oursL (os.take i) ++ [x]).length = N9 at HE ⊢
        clear hro9 hrow9 hb9 hg9 HD k0 k1 k2 k3 k4 k5
        go_wp2_with fail
        go_roundw
        case rel => exact ⟨i + 1, oo8, N8, oc8, po9, N9, pc9, HLT.out, rfl, rfl, by go_num, Lib.hid ⟨by rw [HEQ2.out]; exact HE.out.1, by rw [HEQ2.out]; exact HE.out.2.1, HE.out.2.2⟩⟩
        case measure => simp [intOf]; have := HLT.out; omega
      · have d1 : decide ((i : Int) < 20) = false := by simp; omega
        have heq := HEM.out (by omega)
        have HEQ2 := Lib.hid heq
        have HN := Lib.hid (HI.out.2.2.trans ((belNew wr (opR o)).mono HI.out.2.2.size))
        have HR1 := Lib.hid (HI.out.1.below (belNew wr (opR o)))
        have HR2 := Lib.hid (HI.out.2.1.below (belNew wr (opR o)))
        clear heq HEM HEQ h20
        go_upto_region 6 with fail
        change Code.wp _ _ _ _ (wr.alloc (opR o))
        generalize wr.alloc (opR o) = w6 at *
        go_wp2_with fail
        go_roundw
        case rel => exact ⟨i + 1, oo, on, oc, po, pn, pc, HLT.out, rfl, rfl, by go_num, Lib.hid ⟨by rw [HEQ2.out]; exact HR1.out, by rw [HEQ2.out]; exact HR2.out, HN.out⟩⟩
        case measure => simp [intOf]; have := HLT.out; omega
    · obtain rfl : i = os.length := by omega
      have HF := HI.out
      rw [oursL_all] at HF
      have HF2 := Lib.hid HF
      clear HF HI
      go_wp2_with fail
      go_ret2
      exact ⟨_, _, rfl, HF2.out.1, HF2.out.2.1, HF2.out.2.2⟩
end Go.Proofs.Ytholgmcfgnifdaa
