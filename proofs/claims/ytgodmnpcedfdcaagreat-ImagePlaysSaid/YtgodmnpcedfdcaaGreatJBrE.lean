/- Joined: BrE Gs BrF BrG BrH BrI BrJ. -/
import Derived.Test.YtgodmnpcedfdcaaGreatBrD
import Derived.Test.YtgodmnpcedfdcaaGreatGr
import Derived.Deep.AppendSrc
namespace Go.Proofs.YtgodmnpcedfdcaaGreat
section
open Go.RowKit
abbrev encI1 (x : Int) : List Value := [.int .i64 x]
abbrev RowI1 (w : World) (B : Nat) (v : Value) (xs : List Int) : Prop := RowG 3 1 encI1 w B v xs
theorem flat_I1 : ∀ xs : List Int, xs.flatMap encI1 = cellsI xs
  | [] => rfl
  | a :: l => by
    rw [List.flatMap_cons, flat_I1 l]
    rfl
theorem RowI1.owns {w : World} {B : Nat} {v : Value} {xs : List Int} (h : RowI1 w B v xs) : OwnsI w B v xs := by
  have h' : w.ownsRow B 3 1 v xs.length (xs.flatMap encI1) := h
  rw [flat_I1] at h'
  exact h'
theorem encI1_one (x : Int) : ∀ u ∈ encI1 x, u.oneCell' = true := by
  intro u hu
  obtain rfl : u = _ := by simpa using hu
  rfl
theorem rep_succ (n : Nat) : List.replicate (n + 1) (0 : Int) = List.replicate n 0 ++ [0] := by rw [List.replicate_succ']
set_option maxRecDepth 100000 in
set_option maxHeartbeats 8000000 in
theorem newD_any (x : Int) (s : ByteArray) (w : World) (hx : 0 ≤ x) (hx' : x < 4294967296) :
    Calls Tryz.prog 5 #[.int .u32 x, .string s] w fun e w' => ∃ v1 v2, e = .returned (docV (x - x % 64) s v1 v2 NS) ∧ OwnsI w' w.heap.size v1 (List.replicate 64 0) ∧ OwnsI w' w.heap.size v2 (rangeI 64) ∧ Below w.heap.size w w' := by
  have h1 : x.tmod 64 = x % 64 := by rw [Int.tmod_eq_emod_of_nonneg hx]
  have h2 : IntKind.u32.wrap (x % 64) = x % 64 := IntWalk.u32_in _ (by omega)
  have h3 : IntKind.u32.wrap (x - x % 64) = x - x % 64 := IntWalk.u32_in _ (by omega)
  obtain ⟨hb0, hA, hT, hsz⟩ := two_newB w (docO 0 ⟨#[]⟩ NS NS NS) (docO (x - x % 64) s NS NS NS)
  obtain ⟨W, hW⟩ : ∃ W, W = (w.alloc (docO 0 ⟨#[]⟩ NS NS NS)).alloc (docO (x - x % 64) s NS NS NS) := ⟨_, rfl⟩
  rw [← hW] at hb0 hA hT hsz
  have HS := Lib.hid (show DocAt W w.heap.size 0 ⟨#[]⟩ NS NS NS from hA)
  have HD := Lib.hid (show DocAt W (w.heap.size + 1) (x - x % 64) s NS NS NS from hT)
  have HB := Lib.hid hb0
  have HSZ := Lib.hid hsz
  have HW := Lib.hid hW
  clear hb0 hA hT hsz hW hx hx'
  go_enter Tryz.func5, Tryz.ntmps5
  go_upto_region 2 with fail
  change Code.wp _ _ _ _ ((w.alloc (docO 0 ⟨#[]⟩ NS NS NS)).alloc (docO (x - x % 64) s NS NS NS))
  rw [← HW.out]
  clear HW h1 h2 h3
  go_wp2_with fail
  go_loopw [6] (fun j wr => ∃ (i : Nat) (o : Option Addr) (c : Nat) (p : Option Addr) (d : Nat), i ≤ 64 ∧ j = .int .i64 i ∧ Hid (DocAt wr w.heap.size 0 ⟨#[]⟩ NS NS NS ∧ DocAt wr (w.heap.size + 1) (x - x % 64) s (.slice o i c) (.slice p i d) NS ∧ RowI1 wr W.heap.size (.slice o i c) (List.replicate i 0) ∧ RowI1 wr W.heap.size (.slice p i d) (rangeI i) ∧ (∀ k, (Value.slice o i c).ownBlock = some k → (Value.slice p i d).ownBlock ≠ some k) ∧ Below w.heap.size w wr ∧ W.heap.size ≤ wr.heap.size)) (fun j _ => 64 - (intOf j).toNat)
  case atStart => exact ⟨0, none, 0, none, 0, Nat.zero_le _, rfl, Lib.hid ⟨HS.out, HD.out, RowG.nil _ _ _ _ _, RowG.nil _ _ _ _ _, (fun k hk => by cases hk), HB.out, Nat.le_refl _⟩⟩
  case round =>
    obtain ⟨i, o, c, p, d, hi, rfl, HI⟩ := hrel
    obtain ⟨hz, hd, r1, r2, hne, hb, hs⟩ := HI.out
    by_cases hlt : i < 64
    · have d2 : decide ((i : Int) < 64) = true := by simp; omega
      have p2 : (i : Int) < 64 := by omega
      have e1 : IntKind.i64.wrap ((i : Int) + 1) = (i : Int) + 1 := IntWalk.i64_in _ (by omega)
      have e2 : IntKind.i64.wrap (i : Int) = (i : Int) := IntWalk.i64_in _ (by omega)
      have k1 := hd.cells.2.2.1
      have k2 := hd.froz 2
      have HLT := Lib.hid hlt
      have HX := Lib.hid (And.intro hz (And.intro hd (And.intro r1 (And.intro r2 (And.intro hne (And.intro hb hs))))))
      clear hz hd r1 r2 hne hb hs hlt HI
      go_upto_region 6 with (at_builtin; refine wpList_pushG (w0 := wr) (T := 32) (E := 3) (enc := encI1) Tryz.underlying32 infoI rfl (by decide) (by decide) (fun _ => rfl) encI1_one rfl (.tmp 18) (.tmp 19) rfl W.heap.size (.slice o i c) (List.replicate i 0) 0 wr.heap.size rfl rfl rfl HX.out.2.2.1 (by rw [List.length_replicate]; omega) HX.out.2.2.2.2.2.2 ?_; intro v5 w5 ho5 hb5 hg5 hat5; obtain ⟨o5, c5, rfl⟩ := ho5.slice; have H5 := Lib.hid (And.intro ho5 (And.intro hb5 (And.intro hg5 hat5))); have k1 := (HX.out.2.1.keepB hb5 (by have := HSZ.out; omega)).cells.2.2.1; have k2 := (HX.out.2.1.keepB hb5 (by have := HSZ.out; omega)).froz 2; clear ho5 hb5 hg5 hat5)
      have hlo : ∀ k, (Value.slice o5 (List.replicate i 0 ++ [(0 : Int)]).length c5).ownBlock = some k → (Value.slice p i d).ownBlock ≠ some k := fun k hk hk' => by
        rcases H5.out.2.2.2 with e | e
        · exact HX.out.2.2.2.2.1 k (by rw [← e]; exact hk) hk'
        · have h6 := (HX.out.2.2.2.1.form k hk').2
          rw [hk] at e
          have h7 := Option.some.inj e
          omega
      have hsl : W.heap.size > w.heap.size + 1 := by have := HSZ.out; omega
      have hD6 := (HX.out.2.1.keepB H5.out.2.1 (by omega)).set2 (.slice o5 (List.replicate i 0 ++ [(0 : Int)]).length c5)
      have hZ6 := (HX.out.1.keepB H5.out.2.1 (by omega)).setO (p := ⟨w.heap.size + 1, 2, none⟩) (by show w.heap.size ≠ w.heap.size + 1; omega) (.slice o5 (List.replicate i 0 ++ [(0 : Int)]).length c5)
      have r16 : RowI1 (w5.setCell ⟨w.heap.size + 1, 2, none⟩ (.slice o5 (List.replicate i 0 ++ [(0 : Int)]).length c5)) W.heap.size (.slice o5 (List.replicate i 0 ++ [(0 : Int)]).length c5) (List.replicate i 0 ++ [(0 : Int)]) := own_set H5.out.1 (a := ⟨w.heap.size + 1, 2, none⟩) (by show w.heap.size + 1 < W.heap.size; omega) _
      have r26 : RowI1 (w5.setCell ⟨w.heap.size + 1, 2, none⟩ (.slice o5 (List.replicate i 0 ++ [(0 : Int)]).length c5)) W.heap.size (.slice p i d) (rangeI i) := own_set (own_grownO HX.out.2.2.2.1 H5.out.2.2.1 (fun k hk hk' => HX.out.2.2.2.2.1 k hk' hk)) (a := ⟨w.heap.size + 1, 2, none⟩) (by show w.heap.size + 1 < W.heap.size; omega) _
      have hB6 : Below w.heap.size w (w5.setCell ⟨w.heap.size + 1, 2, none⟩ (.slice o5 (List.replicate i 0 ++ [(0 : Int)]).length c5)) := (HX.out.2.2.2.2.2.1.trans (H5.out.2.1.mono (by omega))).setCell (p := ⟨w.heap.size + 1, 2, none⟩) (Nat.le_succ _) _
      have hS6 : W.heap.size ≤ (w5.setCell ⟨w.heap.size + 1, 2, none⟩ (.slice o5 (List.replicate i 0 ++ [(0 : Int)]).length c5)).heap.size := size_set (Nat.le_trans HX.out.2.2.2.2.2.2 H5.out.2.1.size) _ _
      have hN : (List.replicate i (0 : Int) ++ [(0 : Int)]).length = i + 1 := by rw [List.length_append, List.length_replicate]; rfl
      rw [hN] at hlo hD6 hZ6 r16 r26 hB6 hS6
      generalize w5.setCell ⟨w.heap.size + 1, 2, none⟩ (.slice o5 (i + 1) c5) = w6 at *
      have k1 := hD6.cells.2.2.2.1
      have k2 := hD6.froz 3
      have H6 := Lib.hid (And.intro hZ6 (And.intro hD6 (And.intro r16 (And.intro r26 (And.intro hlo (And.intro hB6 hS6))))))
      clear hlo hsl hD6 hZ6 r16 r26 hB6 hS6 hN HX H5
      go_upto_region 4 with (at_builtin; refine wpList_pushG (w0 := w6) (T := 32) (E := 3) (enc := encI1) Tryz.underlying32 infoI rfl (by decide) (by decide) (fun _ => rfl) encI1_one rfl (.tmp 23) (.tmp 25) rfl W.heap.size (.slice p i d) (rangeI i) i w6.heap.size rfl rfl rfl H6.out.2.2.2.1 (by rw [rangeI_len]; omega) H6.out.2.2.2.2.2.2 ?_; intro v7 w7 ho7 hb7 hg7 hat7; obtain ⟨o7, c7, rfl⟩ := ho7.slice; have H7 := Lib.hid (And.intro ho7 (And.intro hb7 (And.intro hg7 hat7))); have k1 := (H6.out.2.1.keepB hb7 (by have := HSZ.out; omega)).cells.2.2.2.1; have k2 := (H6.out.2.1.keepB hb7 (by have := HSZ.out; omega)).froz 3; clear ho7 hb7 hg7 hat7)
      have hrl : (rangeI i).length = i := rangeI_len i
      have hN : (rangeI i ++ [(i : Int)]).length = i + 1 := by rw [List.length_append, hrl]; rfl
      have ho7 := H7.out.1
      rw [hN] at ho7
      have hat7 := H7.out.2.2.2
      rw [hN] at hat7
      rw [hrl]
      have hlo : ∀ k, (Value.slice o5 (i + 1) c5).ownBlock = some k → (Value.slice o7 (i + 1) c7).ownBlock ≠ some k := fun k hk hk' => by
        rcases hat7 with e | e
        · exact H6.out.2.2.2.2.1 k hk (by rw [← e]; exact hk')
        · have h6 := (H6.out.2.2.1.form k hk).2
          rw [hk'] at e
          have h7 := Option.some.inj e
          omega
      have hsl : W.heap.size > w.heap.size + 1 := by have := HSZ.out; omega
      have hD8 := (H6.out.2.1.keepB H7.out.2.1 (by omega)).set3 (.slice o7 (i + 1) c7)
      have hZ8 := (H6.out.1.keepB H7.out.2.1 (by omega)).setO (p := ⟨w.heap.size + 1, 3, none⟩) (by show w.heap.size ≠ w.heap.size + 1; omega) (.slice o7 (i + 1) c7)
      have r18 : RowI1 (w7.setCell ⟨w.heap.size + 1, 3, none⟩ (.slice o7 (i + 1) c7)) W.heap.size (.slice o5 (i + 1) c5) (List.replicate i 0 ++ [(0 : Int)]) := own_set (own_grownO H6.out.2.2.1 H7.out.2.2.1 (fun k hk hk' => H6.out.2.2.2.2.1 k hk hk')) (a := ⟨w.heap.size + 1, 3, none⟩) (by show w.heap.size + 1 < W.heap.size; omega) _
      have r28 : RowI1 (w7.setCell ⟨w.heap.size + 1, 3, none⟩ (.slice o7 (i + 1) c7)) W.heap.size (.slice o7 (i + 1) c7) (rangeI i ++ [(i : Int)]) := own_set ho7 (a := ⟨w.heap.size + 1, 3, none⟩) (by show w.heap.size + 1 < W.heap.size; omega) _
      have hB8 : Below w.heap.size w (w7.setCell ⟨w.heap.size + 1, 3, none⟩ (.slice o7 (i + 1) c7)) := (H6.out.2.2.2.2.2.1.trans (H7.out.2.1.mono (by omega))).setCell (p := ⟨w.heap.size + 1, 3, none⟩) (Nat.le_succ _) _
      have hS8 : W.heap.size ≤ (w7.setCell ⟨w.heap.size + 1, 3, none⟩ (.slice o7 (i + 1) c7)).heap.size := size_set (Nat.le_trans H6.out.2.2.2.2.2.2 H7.out.2.1.size) _ _
      generalize w7.setCell ⟨w.heap.size + 1, 3, none⟩ (.slice o7 (i + 1) c7) = w8 at *
      rw [← rep_succ] at r18
      rw [← rangeI_succ] at r28
      have H8 := Lib.hid (And.intro hZ8 (And.intro hD8 (And.intro r18 (And.intro r28 (And.intro hlo (And.intro hB8 hS8))))))
      clear hrl hN ho7 hat7 hlo hsl hD8 hZ8 r18 r28 hB8 hS8 H6 H7
      go_wp2_with fail
      go_roundw
      case rel => exact ⟨i + 1, o5, c5, o7, c7, HLT.out, by simp, H8⟩
      case measure =>
        have := HLT.out
        simp only [intOf]
        omega
    · obtain rfl : i = 64 := by omega
      have d2 : decide (((64 : Nat) : Int) < 64) = false := by decide
      have p2 : ¬ (((64 : Nat) : Int) < 64) := by decide
      obtain ⟨k0, k1, k2, k3, k4⟩ := hd.cells
      obtain ⟨j0, j1, j2, j3, j4⟩ := hz.cells
      have z0 := hz.froz 0
      have z1 := hz.froz 1
      have z2 := hz.froz 2
      have z3 := hz.froz 3
      have z4 := hz.froz 4
      have hE : (((((wr.setCell ⟨w.heap.size, 0, none⟩ (.int .u32 (x - x % 64))).setCell ⟨w.heap.size, 1, none⟩ (.string s)).setCell ⟨w.heap.size, 2, none⟩ (.slice o 64 c)).setCell ⟨w.heap.size, 3, none⟩ (.slice p 64 d)).setCell ⟨w.heap.size, 4, none⟩ NS).heap[w.heap.size]? = some (docO (x - x % 64) s (.slice o 64 c) (.slice p 64 d) NS) := by
        have h' : wr.heap[w.heap.size]? = some (.cells #[.int .u32 0, .string ⟨#[]⟩, NS, NS, NS] TD (0, 0)) := hz
        simp [World.setCell, Array.getElem?_modify, h']
      have hO : ∀ {E : TypeId} {s' B nn : Nat} {v : Value} {xs : List Value}, wr.ownsRow B E s' v nn xs → w.heap.size < B → (((((wr.setCell ⟨w.heap.size, 0, none⟩ (.int .u32 (x - x % 64))).setCell ⟨w.heap.size, 1, none⟩ (.string s)).setCell ⟨w.heap.size, 2, none⟩ (.slice o 64 c)).setCell ⟨w.heap.size, 3, none⟩ (.slice p 64 d)).setCell ⟨w.heap.size, 4, none⟩ NS).ownsRow B E s' v nn xs := fun h hB => own_set (own_set (own_set (own_set (own_set h hB _) hB _) hB _) hB _) hB _
      have hB5 : Below w.heap.size w (((((wr.setCell ⟨w.heap.size, 0, none⟩ (.int .u32 (x - x % 64))).setCell ⟨w.heap.size, 1, none⟩ (.string s)).setCell ⟨w.heap.size, 2, none⟩ (.slice o 64 c)).setCell ⟨w.heap.size, 3, none⟩ (.slice p 64 d)).setCell ⟨w.heap.size, 4, none⟩ NS) := ((((hb.setCell (p := ⟨w.heap.size, 0, none⟩) (Nat.le_refl _) _).setCell (p := ⟨w.heap.size, 1, none⟩) (Nat.le_refl _) _).setCell (p := ⟨w.heap.size, 2, none⟩) (Nat.le_refl _) _).setCell (p := ⟨w.heap.size, 3, none⟩) (Nat.le_refl _) _).setCell (p := ⟨w.heap.size, 4, none⟩) (Nat.le_refl _) _
      have hlw : w.heap.size < W.heap.size := by have := HSZ.out; omega
      have q1 := (RowI1.owns r1)
      have q2 := (RowI1.owns r2)
      have q1' := own_le (hO q1 hlw) (Nat.le_of_lt hlw)
      have q2' := own_le (hO q2 hlw) (Nat.le_of_lt hlw)
      have HF := Lib.hid (And.intro hE (And.intro q1' (And.intro q2' hB5)))
      clear hE hO hB5 hlw q1 q2 q1' q2' r1 r2 hne hz hd hb hs hlt HI
      go_wp2_with fail
      exact bodyPost_ret (v := docV (x - x % 64) s (.slice o 64 c) (.slice p 64 d) NS) (resB1 rfl rfl (loadVarD HF.out.1)) rfl ⟨_, _, rfl, HF.out.2.1, HF.out.2.2.1, HF.out.2.2.2⟩
end
section
open Go.RowKit Go.Maps
theorem sees_flatG {α : Type} {s : Nat} {enc : α → List Value} (he : ∀ p, (enc p).length = s) (hs0 : 0 < s) {w : World} {a : Addr} {n c : Nat} {L : List α} (h : SeesG s enc w (.slice (some a) n c) L) : ∀ j u, (L.flatMap enc)[j]? = some u → w.cell? (a.add j) = some u := by
  intro j u hj
  have hlt : j < (L.flatMap enc).length := (List.getElem?_eq_some_iff.1 hj).1
  rw [flat_lenG he] at hlt
  have hi : j / s < L.length := (Nat.div_lt_iff_lt_mul hs0).2 hlt
  have hp : L[j / s]? = some (L[j / s]'hi) := List.getElem?_eq_getElem hi
  obtain ⟨b, hb, -, hc⟩ := h.at hp
  obtain rfl : a = b := Option.some.inj hb
  have hm : j % s < s := Nat.mod_lt _ hs0
  have e1 : j / s * s + j % s = j := Nat.div_add_mod' j s
  have hat := flat_atG he L (j / s) (j % s) _ hp hm
  rw [e1, hj] at hat
  have h2 := hc (j % s) u hat.symm
  rwa [Addr.add_add, e1] at h2
theorem flat_oneG {α : Type} {enc : α → List Value} (h1 : ∀ p, ∀ u ∈ enc p, u.oneCell' = true) (L : List α) : ∀ u ∈ L.flatMap enc, u.oneCell' = true := by
  intro u hu
  obtain ⟨p, -, hp⟩ := List.mem_flatMap.1 hu
  exact h1 p u hp
theorem wpList_copyG {α : Type} {T E : TypeId} {s bytes : Nat} {enc : α → List Value} {z : Value} (hTE : Tryz.prog.underlying T = some (.slice E)) (hI : (Tryz.prog.info? E).map (fun i => (i.zero, i.size, i.bytes)) = some (some z, s, bytes)) (hzs : z.cells.size = s) (hs0 : 0 < s) (hby : bytes ≤ 1000000)
    (he : ∀ p, (enc p).length = s) (h1 : ∀ p, ∀ u ∈ enc p, u.oneCell' = true) {w0 : World} {ops : Array Oper} {rest : List Oper} {o : Oper} {a : Act} {Q : Exit → Act → World → Prop} (hgd : o.guard = none) (sv x : Operand)
    (ho : o.op = .call { callee := .builtin .append, args := #[sv, x], argTypes := #[T, T] }) (src : Value) (L : List α) (k : Nat) (hk : k = w0.heap.size) (hs : a.eval sv = .slice (some ⟨k, 0, none⟩) 0 0) (hx : a.eval x = src) (hsee : SeesG s enc w0 src L) (hlen : L.length ≤ 1000000)
    (h : ∀ v' w', RowG E s enc w' w0.heap.size v' L → Below w0.heap.size w0 w' → wpList Tryz.prog ops Q rest (a.put o.dst v') w') :
    wpList Tryz.prog ops Q (o :: rest) a (w0.alloc (.cells #[] E)) := by
  subst hk
  obtain ⟨i0, hi, hz0, hz1, hz2⟩ := info_parts hI
  have HO : (w0.alloc (.cells #[] E)).ownsRow w0.heap.size E s (.slice (some ⟨w0.heap.size, 0, none⟩) 0 0) 0 [] := World.ownsRow_lit (base := w0.heap.size) (e := E) (size := s) w0 #[] 0 (Nat.le_refl _) (by unfold maxLen; omega) (by simp)
  have hb0 := belNew w0 (.cells #[] E)
  obtain ⟨ao, c, rfl, hlc, hnil, hc⟩ := id hsee
  cases ao with
  | none =>
    obtain rfl := hnil rfl
    refine wpList_plain hgd fun _ hK => ?_
    have hr := run_append_room_src (P := Tryz.prog) (w0.alloc (.cells #[] E)) T T o.type E i0 hTE hi w0.heap.size 0 0 0 (.slice none 0 c) 0 [] (Src.ofNil _ hTE c) (Nat.le_refl _) (fun j hj => by cases hj) (fun j hj => by cases hj)
    unfold Oper.wp execOp
    simp only [ho, resolve, invoke, builtin, Sem.run_bind, Sem.run_pure, Result.andThen_ok, List.map_toArray, List.map_cons, List.map_nil, hs, hx, List.length_nil, hr]
    exact hK _ _ (h _ _ HO hb0)
  | some ad =>
    have hlb : (0 + L.length) * bytes ≤ 140737488355328 := by
      have h2 : (0 + L.length) * bytes ≤ 1000000 * 1000000 := Nat.mul_le_mul (by omega) hby
      omega
    refine wpList_append_own _ hgd sv x T ho w0.heap.size E i0 z s bytes hTE hi hz0 hz1 hz2 hzs hs0 _ 0 [] hs HO ad L.length c (L.flatMap enc) hx (flat_lenG he L) (sees_flatG he hs0 (hsee.below hb0)) (flat_oneG h1 L) (by unfold maxLen; omega) hlb hb0.size ?_
    intro v' w' ho' hg' _
    refine h v' w' ?_ (hb0.grown hg' hb0.size (fun j hj => by cases hj; exact Nat.le_refl _))
    have h2 := ho'
    rw [Nat.zero_add, List.nil_append] at h2
    exact h2
end
section
open Go.RowKit
theorem encA_one (p : PA) : ∀ u ∈ encA p, u.oneCell' = true := by
  intro u hu
  simp only [encA, List.mem_cons, List.not_mem_nil, or_false] at hu
  rcases hu with rfl | rfl <;> rfl
/-- A block of the document's, as a value, in its parts. -/
structure DocSees (w : World) (sl free : List Int) (attrs : List PA) (v1 v2 v3 : Value) : Prop where
  slots : SeesG 1 encI1 w v1 sl
  free : SeesG 1 encI1 w v2 free
  attrs : SeesG 2 encA w v3 attrs
theorem DocSees.below {w w' : World} {sl free : List Int} {attrs : List PA} {v1 v2 v3 : Value} (h : DocSees w sl free attrs v1 v2 v3) (hb : Below w.heap.size w w') : DocSees w' sl free attrs v1 v2 v3 := ⟨h.slots.below hb, h.free.below hb, h.attrs.below hb⟩
end
section
open Go.RowKit
theorem loadVarT {w : World} {g : Nat} {p : PA} (h : w.heap[g]? = some (rtO p)) : (loadVar 38 ⟨g, 0, none⟩).run Tryz.prog w = .ok (atV p) w := by
  have x0 := cell0 h
  have x1 := cell1 h
  have z := Tryz.sizeOf38
  have i := Tryz.isAgg38
  simp [loadVar, go_sem, x0, x1, z, i]
theorem storeT {w : World} {g : Nat} {p : PA} (h : w.heap[g]? = some (rtO p)) (q : PA) : ((w.setCell ⟨g, 0, none⟩ (.string q.1)).setCell ⟨g, 1, none⟩ (.string q.2)).heap[g]? = some (rtO q) := by
  simp [World.setCell, Array.getElem?_modify, h]
set_option maxRecDepth 100000 in
set_option maxHeartbeats 8000000 in
theorem refOf_no (y : Int) (s : ByteArray) (v1 v2 v3 : Value) (sl free : List Int) (attrs : List PA) (x : Int) (w : World) (h : DocSees w sl free attrs v1 v2 v3) (hl : sl.length = 64) (hx : 0 ≤ x) (hx' : x < 4294967296) (hno : inB y x = false ∨ sl.getD (x % 64).toNat 0 = 0) :
    Calls Tryz.prog 53 #[docV y s v1 v2 v3, .int .u32 x] w fun e w' => e = .returned (.tuple #[atV (em, em), .bool false]) ∧ Below w.heap.size w w' := by
  obtain ⟨a1, c1, rfl⟩ := h.slots.slice
  obtain ⟨a2, c2, rfl⟩ := h.free.slice
  obtain ⟨a3, c3, rfl⟩ := h.attrs.slice
  rw [hl] at h ⊢
  obtain ⟨hb0, hA, hT, hsz⟩ := two_newB w (docO y s (.slice a1 64 c1) (.slice a2 free.length c2) (.slice a3 attrs.length c3)) (rtO (em, em))
  obtain ⟨W, hW⟩ : ∃ W, W = (w.alloc (docO y s (.slice a1 64 c1) (.slice a2 free.length c2) (.slice a3 attrs.length c3))).alloc (rtO (em, em)) := ⟨_, rfl⟩
  rw [← hW] at hb0 hA hT hsz
  obtain ⟨k, hk⟩ : ∃ k : Nat, x % 64 = (k : Int) := ⟨(x % 64).toNat, by omega⟩
  have hk64 : k < 64 := by omega
  rw [hk, Int.toNat_natCast] at hno
  have hp : sl[k]? = some (sl.getD k 0) := by rw [List.getD_eq_getElem?_getD, List.getElem?_eq_getElem (by omega)]; rfl
  generalize sl.getD k 0 = z at hno hp
  obtain ⟨b1, rfl, -, hc⟩ := (h.slots.below hb0).at hp
  have q0 : W.cell? (b1.add (k * 1)) = some (.int .i64 z) := hc 0 _ rfl
  rw [Nat.mul_one] at q0
  have h1 : x.tmod 64 = (k : Int) := by rw [Int.tmod_eq_emod_of_nonneg hx, hk]
  have h2 : IntKind.u32.wrap (k : Int) = (k : Int) := IntWalk.u32_in _ (by omega)
  have i0 : (0 : Int) ≤ (k : Int) := by omega
  have i1 : (k : Int) < 64 := by omega
  obtain ⟨d0, d1, d2, d3, d4⟩ := (show DocAt W w.heap.size y s (.slice (some b1) 64 c1) (.slice a2 free.length c2) (.slice a3 attrs.length c3) from hA).cells
  have HA := Lib.hid hA
  have HT := Lib.hid hT
  have HB := Lib.hid hb0
  have HSZ := Lib.hid hsz
  have HIN := Lib.hid (inD_any y s (.slice (some b1) 64 c1) (.slice a2 free.length c2) (.slice a3 attrs.length c3) x W hx hx')
  have HW := Lib.hid hW
  clear hA hT hb0 hsz hW h hc hp hk hl hk64
  go_enter Tryz.func53, Tryz.ntmps53
  go_upto_region 1 with fail
  change Code.wp _ _ _ _ ((w.alloc (docO y s (.slice (some b1) 64 c1) (.slice a2 free.length c2) (.slice a3 attrs.length c3))).alloc (rtO (em, em)))
  rw [← HW.out]
  clear HW
  cases hin : inB y x with
  | false =>
    rw [hin] at HIN
    clear hin hno
    go_upto_region 2 with (go_at_call 52; refine HIN.out.mono ?_; rintro e w1 ⟨rfl, hb1⟩; have hT1 := (hb1.block _ (heap_lt HT.out)).trans HT.out; have t0 := cell0 hT1; have t1 := cell1 hT1; have f0 := froz hT1 0; have f1 := froz hT1 1)
    have hE := storeT hT1 (em, em)
    have hBn : Below w.heap.size w ((w1.setCell ⟨w.heap.size + 1, 0, none⟩ (.string em)).setCell ⟨w.heap.size + 1, 1, none⟩ (.string em)) := ((HB.out.trans (hb1.mono HB.out.size)).setCell (p := ⟨w.heap.size + 1, 0, none⟩) (Nat.le_succ _) _).setCell (p := ⟨w.heap.size + 1, 1, none⟩) (Nat.le_succ _) _
    have HE := Lib.hid (And.intro hE hBn)
    clear hE hBn hT1
    go_wp2_with fail
    exact bodyPost_ret (resB2 Tryz.results53 rfl (loadVarT HE.out.1)) rfl ⟨rfl, HE.out.2⟩
  | true =>
    rw [hin] at HIN
    have hz : z = 0 := by
      rcases hno with h | h
      · rw [hin] at h; cases h
      · exact h
    subst hz
    clear hin hno
    go_upto_region 2 with (go_at_call 52; refine HIN.out.mono ?_; rintro e w1 ⟨rfl, hb1⟩; have hT1 := (hb1.block _ (heap_lt HT.out)).trans HT.out; have t0 := cell0 hT1; have t1 := cell1 hT1; have f0 := froz hT1 0; have f1 := froz hT1 1; have q0 := bcell hb1 q0; have d2 := bcell hb1 d2)
    have hE := storeT hT1 (em, em)
    have hBn : Below w.heap.size w ((w1.setCell ⟨w.heap.size + 1, 0, none⟩ (.string em)).setCell ⟨w.heap.size + 1, 1, none⟩ (.string em)) := ((HB.out.trans (hb1.mono HB.out.size)).setCell (p := ⟨w.heap.size + 1, 0, none⟩) (Nat.le_succ _) _).setCell (p := ⟨w.heap.size + 1, 1, none⟩) (Nat.le_succ _) _
    have HE := Lib.hid (And.intro hE hBn)
    clear hE hBn hT1
    go_wp2_with fail
    exact bodyPost_ret (resB2 Tryz.results53 rfl (loadVarT HE.out.1)) rfl ⟨rfl, HE.out.2⟩
end
section
open Go.RowKit
theorem bdrewD {w W : World} {n : Nat} (h : Below n w W) : Below n w W.drew := ⟨h.os, h.tape, h.output, h.size, h.block⟩
theorem ncellB {n : Nat} {w W : World} {a : Addr} {v : Value} (hb : Below n w W) (hn : a.block < n) (h : w.cell? a = some v) : W.cell? a = some v := (World.cell?_of_block (hb.block _ hn)).trans h
set_option maxRecDepth 100000 in
set_option maxHeartbeats 8000000 in
theorem refOf_yes (y : Int) (s : ByteArray) (v1 v2 v3 : Value) (sl free : List Int) (attrs : List PA) (x z : Int) (p : PA) (w : World) (h : DocSees w sl free attrs v1 v2 v3) (hl : sl.length = 64) (hal : attrs.length ≤ 1000000) (hx : 0 ≤ x) (hx' : x < 4294967296) (hin : inB y x = true) (hz : sl[(x % 64).toNat]? = some z) (hz1 : 1 ≤ z) (hp : attrs[(z - 1).toNat]? = some p) :
    Calls Tryz.prog 53 #[docV y s v1 v2 v3, .int .u32 x] w fun e w' => e = .returned (.tuple #[atV p, .bool true]) ∧ Below w.heap.size w w' := by
  obtain ⟨a1, c1, rfl⟩ := h.slots.slice
  obtain ⟨a2, c2, rfl⟩ := h.free.slice
  obtain ⟨a3, c3, rfl⟩ := h.attrs.slice
  rw [hl] at h ⊢
  obtain ⟨k, hk⟩ : ∃ k : Nat, x % 64 = (k : Int) := ⟨(x % 64).toNat, by omega⟩
  rw [hk, Int.toNat_natCast] at hz
  obtain ⟨j, hj⟩ : ∃ j : Nat, z - 1 = (j : Int) := ⟨(z - 1).toNat, by omega⟩
  rw [hj, Int.toNat_natCast] at hp
  have hjl : j < attrs.length := (List.getElem?_eq_some_iff.1 hp).1
  obtain ⟨b1, rfl, -, hc⟩ := h.slots.at hz
  have q0 : w.cell? (b1.add (k * 1)) = some (.int .i64 z) := hc 0 _ rfl
  rw [Nat.mul_one] at q0
  obtain ⟨b3, rfl, -, hc3⟩ := h.attrs.at hp
  have m0 : w.cell? (b3.add (j * 2)) = some (.string p.1) := hc3 0 _ rfl
  have m1 : w.cell? { block := (b3.add (j * 2)).block, off := (b3.add (j * 2)).off + 1 } = some (.string p.2) := hc3 1 _ rfl
  obtain ⟨hb0, hA, hT, hsz⟩ := two_newB w (docO y s (.slice (some b1) 64 c1) (.slice a2 free.length c2) (.slice (some b3) attrs.length c3)) (rtO (em, em))
  obtain ⟨W, hW⟩ : ∃ W, W = (w.alloc (docO y s (.slice (some b1) 64 c1) (.slice a2 free.length c2) (.slice (some b3) attrs.length c3))).alloc (rtO (em, em)) := ⟨_, rfl⟩
  rw [← hW] at hb0 hA hT hsz
  have h1 : x.tmod 64 = (k : Int) := by rw [Int.tmod_eq_emod_of_nonneg hx, hk]
  have h2 : IntKind.u32.wrap (k : Int) = (k : Int) := IntWalk.u32_in _ (by omega)
  have h3 : IntKind.i64.wrap (z - 1) = (j : Int) := by rw [hj]; exact IntWalk.i64_in _ (by omega)
  have i0 : (0 : Int) ≤ (k : Int) := by omega
  have i1 : (k : Int) < 64 := by omega
  have i2 : (0 : Int) ≤ (j : Int) := by omega
  have i3 : (j : Int) < (attrs.length : Int) := by omega
  have e0 : (z == 0) = false := by simp; omega
  have e1 : ¬ z = 0 := by omega
  obtain ⟨d0, d1, d2, d3, d4⟩ := (show DocAt W w.heap.size y s (.slice (some b1) 64 c1) (.slice a2 free.length c2) (.slice (some b3) attrs.length c3) from hA).cells
  have hF : ∀ X, Below (w.heap.size + 1) W X → X.cell? ⟨w.heap.size, 2, none⟩ = some (.slice (some b1) 64 c1) ∧ X.cell? ⟨w.heap.size, 4, none⟩ = some (.slice (some b3) attrs.length c3) ∧ X.cell? (b1.add k) = some (.int .i64 z) ∧ X.cell? (b3.add (j * 2)) = some (.string p.1) ∧ X.cell? { block := (b3.add (j * 2)).block, off := (b3.add (j * 2)).off + 1 } = some (.string p.2) := fun X hX =>
    ⟨ncellB hX (Nat.lt_succ_self _) d2, ncellB hX (Nat.lt_succ_self _) d4, ncellB hX (Nat.lt_succ_of_lt (cell_ltI q0)) (bcell hb0 q0), ncellB hX (Nat.lt_succ_of_lt (cell_ltI m0)) (bcell hb0 m0), ncellB hX (Nat.lt_succ_of_lt (cell_ltI m1)) (bcell hb0 m1)⟩
  have HF := Lib.hid hF
  have HT := Lib.hid hT
  have HB := Lib.hid hb0
  have HSZ := Lib.hid hsz
  have HIN := Lib.hid (inD_any y s (.slice (some b1) 64 c1) (.slice a2 free.length c2) (.slice (some b3) attrs.length c3) x W hx hx')
  have HW := Lib.hid hW
  have q0 := bcell hb0 q0
  rw [hin] at HIN
  clear hA hT hb0 hsz hW h hc hc3 hp hk hl hF m0 m1 hin hz hj hjl hz1
  go_enter Tryz.func53, Tryz.ntmps53
  go_upto_region 1 with fail
  change Code.wp _ _ _ _ ((w.alloc (docO y s (.slice (some b1) 64 c1) (.slice a2 free.length c2) (.slice (some b3) attrs.length c3))).alloc (rtO (em, em)))
  rw [← HW.out]
  clear HW
  go_upto_region 3 with (go_at_call 52; refine HIN.out.mono ?_; rintro e w1 ⟨rfl, hb1⟩; have q0 := bcell hb1 q0; have d2 := bcell hb1 d2)
  clear d0 d1 d2 d3 d4 q0
  refine wp_region_held_drew (S := (fun X => Below (w.heap.size + 1) W X)) (by kernel_rfl) ?_ (fun r0 => ?_)
  · exact bdrewD (hb1.mono (by have := HSZ.out; omega))
  obtain ⟨wd, hwd⟩ : ∃ wd, wd = w1.drew := ⟨_, rfl⟩
  have hT1 : wd.heap[w.heap.size + 1]? = some (rtO (em, em)) := by rw [hwd]; exact (hb1.block _ (heap_lt HT.out)).trans HT.out
  have hbd : Below w.heap.size w wd := by rw [hwd]; exact bdrewD (HB.out.trans (hb1.mono HB.out.size))
  rw [← hwd] at r0 ⊢
  have HD := Lib.hid (And.intro hT1 hbd)
  clear hwd hT1 hbd
  refine wpAnyH_take (i := 0) (v := ?_) rfl (by kernel_rfl) (by kernel_rfl) (by kernel_rfl) (fun _ _ _ h => h) (Or.inl ⟨by rfl, ?_⟩) (by assumption) ?_
  rotate_left
  · intro wS hSw
    (try dsimp only at hSw)
    go_simp
    first | done | with_reducible rfl
  try simp only [Act.put, List.getElem_toArray, List.getElem_cons_zero, List.setIfInBounds_toArray, List.set_cons_zero, List.set_cons_succ]
  refine wpAnyH_take (i := 1) (v := ?_) rfl (by kernel_rfl) (by kernel_rfl) (by kernel_rfl) (fun _ _ _ h => h) (Or.inl ⟨by rfl, ?_⟩) (by assumption) ?_
  rotate_left
  · intro wS hSw
    (try dsimp only at hSw)
    obtain ⟨d2, d4, q0, m0, m1⟩ := HF.out _ hSw
    go_simp
    first | done | with_reducible rfl
  try simp only [Act.put, List.getElem_toArray, List.getElem_cons_succ, List.getElem_cons_zero, List.setIfInBounds_toArray, List.set_cons_zero, List.set_cons_succ]
  refine wpAnyH_take (i := 2) (v := ?_) rfl (by kernel_rfl) (by kernel_rfl) (by kernel_rfl) (fun _ _ _ h => h) (Or.inl ⟨by rfl, ?_⟩) (by assumption) ?_
  rotate_left
  · intro wS hSw
    (try dsimp only at hSw)
    go_simp
    first | done | with_reducible rfl
  try simp only [Act.put, List.getElem_toArray, List.getElem_cons_succ, List.getElem_cons_zero, List.setIfInBounds_toArray, List.set_cons_zero, List.set_cons_succ]
  refine wpAnyH_take (i := 3) (v := ?_) rfl (by kernel_rfl) (by kernel_rfl) (by kernel_rfl) (fun _ _ _ h => h) (Or.inl ⟨by rfl, ?_⟩) (by assumption) ?_
  rotate_left
  · intro wS hSw
    (try dsimp only at hSw)
    obtain ⟨d2, d4, q0, m0, m1⟩ := HF.out _ hSw
    go_simp
    first | done | with_reducible rfl
  try simp only [Act.put, List.getElem_toArray, List.getElem_cons_succ, List.getElem_cons_zero, List.setIfInBounds_toArray, List.set_cons_zero, List.set_cons_succ]
  refine wpAnyH_take (i := 4) (v := ?_) rfl (by kernel_rfl) (by kernel_rfl) (by kernel_rfl) (fun _ _ _ h => h) (Or.inl ⟨by rfl, ?_⟩) (by assumption) ?_
  rotate_left
  · intro wS hSw
    (try dsimp only at hSw)
    go_simp
    first | done | with_reducible rfl
  try simp only [Act.put, List.getElem_toArray, List.getElem_cons_succ, List.getElem_cons_zero, List.setIfInBounds_toArray, List.set_cons_zero, List.set_cons_succ]
  refine wpAnyH_take (i := 5) (v := ?_) rfl (by kernel_rfl) (by kernel_rfl) (by kernel_rfl) (fun _ _ _ h => h) (Or.inl ⟨by rfl, ?_⟩) (by assumption) ?_
  rotate_left
  · intro wS hSw
    (try dsimp only at hSw)
    go_simp
    first | done | with_reducible rfl
  try simp only [Act.put, List.getElem_toArray, List.getElem_cons_succ, List.getElem_cons_zero, List.setIfInBounds_toArray, List.set_cons_zero, List.set_cons_succ]
  refine wpAnyH_take (i := 6) (v := ?_) rfl (by kernel_rfl) (by kernel_rfl) (by kernel_rfl) (fun _ _ _ h => h) (Or.inl ⟨by rfl, ?_⟩) (by assumption) ?_
  rotate_left
  · intro wS hSw
    (try dsimp only at hSw)
    go_simp
    first | done | with_reducible rfl
  try simp only [Act.put, List.getElem_toArray, List.getElem_cons_succ, List.getElem_cons_zero, List.setIfInBounds_toArray, List.set_cons_zero, List.set_cons_succ]
  refine wpAnyH_take (i := 7) (v := ?_) rfl (by kernel_rfl) (by kernel_rfl) (by kernel_rfl) (fun _ _ _ h => h) (Or.inl ⟨by rfl, ?_⟩) (by assumption) ?_
  rotate_left
  · intro wS hSw
    (try dsimp only at hSw)
    obtain ⟨d2, d4, q0, m0, m1⟩ := HF.out _ hSw
    go_simp
    first | done | with_reducible rfl
  try simp only [Act.put, List.getElem_toArray, List.getElem_cons_succ, List.getElem_cons_zero, List.setIfInBounds_toArray, List.set_cons_zero, List.set_cons_succ]
  refine wpAnyH_take (i := 8) (v := ?_) rfl (by kernel_rfl) (by kernel_rfl) (by kernel_rfl) (fun _ _ _ h => h) (Or.inl ⟨by rfl, ?_⟩) (by assumption) ?_
  rotate_left
  · intro wS hSw
    (try dsimp only at hSw)
    go_simp
    first | done | with_reducible rfl
  try simp only [Act.put, List.getElem_toArray, List.getElem_cons_succ, List.getElem_cons_zero, List.setIfInBounds_toArray, List.set_cons_zero, List.set_cons_succ]
  refine wpAnyH_take (i := 9) (v := ?_) rfl (by kernel_rfl) (by kernel_rfl) (by kernel_rfl) (fun _ _ _ h => h) (Or.inl ⟨by rfl, ?_⟩) (by assumption) ?_
  rotate_left
  · intro wS hSw
    (try dsimp only at hSw)
    go_simp
    first | done | with_reducible rfl
  try simp only [Act.put, List.getElem_toArray, List.getElem_cons_succ, List.getElem_cons_zero, List.setIfInBounds_toArray, List.set_cons_zero, List.set_cons_succ]
  refine wpAnyH_take (i := 10) (v := ?_) rfl (by kernel_rfl) (by kernel_rfl) (by kernel_rfl) (fun _ _ _ h => h) (Or.inl ⟨by rfl, ?_⟩) (by assumption) ?_
  rotate_left
  · intro wS hSw
    (try dsimp only at hSw)
    obtain ⟨d2, d4, q0, m0, m1⟩ := HF.out _ hSw
    go_simp
    first | done | with_reducible rfl
  try simp only [Act.put, List.getElem_toArray, List.getElem_cons_succ, List.getElem_cons_zero, List.setIfInBounds_toArray, List.set_cons_zero, List.set_cons_succ]
  refine wpAnyH_ready (rs := [11]) (by kernel_rfl) (by simp) ?_
  refine AllReadyH.cons rfl (fun K hK => ?_) AllReadyH.nil
  have t0 := cell0 HD.out.1
  have t1 := cell1 HD.out.1
  have f0 := froz HD.out.1 0
  have f1 := froz HD.out.1 1
  go_simp
  have hE := storeT HD.out.1 p
  have hBn : Below w.heap.size w ((wd.setCell ⟨w.heap.size + 1, 0, none⟩ (.string p.1)).setCell ⟨w.heap.size + 1, 1, none⟩ (.string p.2)) := (HD.out.2.setCell (p := ⟨w.heap.size + 1, 0, none⟩) (Nat.le_succ _) _).setCell (p := ⟨w.heap.size + 1, 1, none⟩) (Nat.le_succ _) _
  have hSn : Below (w.heap.size + 1) W ((wd.setCell ⟨w.heap.size + 1, 0, none⟩ (.string p.1)).setCell ⟨w.heap.size + 1, 1, none⟩ (.string p.2)) := (r0.setCell (p := ⟨w.heap.size + 1, 0, none⟩) (Nat.le_refl _) _).setCell (p := ⟨w.heap.size + 1, 1, none⟩) (Nat.le_refl _) _
  have HE := Lib.hid (And.intro hE hBn)
  generalize (wd.setCell ⟨w.heap.size + 1, 0, none⟩ (.string p.1)).setCell ⟨w.heap.size + 1, 1, none⟩ (.string p.2) = w2 at *
  clear hE hBn t0 t1 f0 f1
  refine hK.out _ _ ?_ (fun r1 => ?_)
  · exact hSn
  try simp only [Act.put, List.getElem_toArray, List.getElem_cons_succ, List.getElem_cons_zero, List.setIfInBounds_toArray, List.set_cons_zero, List.set_cons_succ]
  refine wpAnyH_take (i := 12) (v := ?_) rfl (by kernel_rfl) (by kernel_rfl) (by kernel_rfl) (fun _ _ _ h => h) (Or.inl ⟨by rfl, ?_⟩) (by assumption) ?_
  rotate_left
  · intro wS hSw
    (try dsimp only at hSw)
    go_simp
    first | done | with_reducible rfl
  try simp only [Act.put, List.getElem_toArray, List.getElem_cons_succ, List.getElem_cons_zero, List.setIfInBounds_toArray, List.set_cons_zero, List.set_cons_succ]
  refine wpAnyH_done (by kernel_rfl) ?_ _
  go_wp2_with fail
  exact bodyPost_ret (resB2 Tryz.results53 rfl (loadVarT HE.out.1)) rfl ⟨rfl, HE.out.2⟩
end
section
open Go.RowKit
end
section
open Go.RowKit
abbrev encU1 (x : Int) : List Value := [.int .u32 x]
abbrev RowU1 (w : World) (B : Nat) (v : Value) (xs : List Int) : Prop := RowG 22 1 encU1 w B v xs
theorem encU1_one (x : Int) : ∀ u ∈ encU1 x, u.oneCell' = true := by
  intro u hu
  obtain rfl : u = _ := by simpa using hu
  rfl
/-- Is a slot's address told? -/
def gvP (sl : List Int) (attrs : List PA) (hd nd : ByteArray) (i : Nat) : Bool :=
  !(sl.getD i 0 == 0) && (((hd.toList == ([] : List UInt8)) || ((attrs.getD (sl.getD i 0 - 1).toNat (em, em)).1.toList == hd.toList)) && ((nd.toList == ([] : List UInt8)) || ((attrs.getD (sl.getD i 0 - 1).toNat (em, em)).2.toList == nd.toList)))
def gvD (y : Int) (sl : List Int) (attrs : List PA) (hd nd : ByteArray) : Nat → List Int
  | 0 => []
  | i + 1 => gvD y sl attrs hd nd i ++ (if gvP sl attrs hd nd i = true then [y + i] else [])
theorem gvD_len (y : Int) (sl : List Int) (attrs : List PA) (hd nd : ByteArray) : ∀ n, (gvD y sl attrs hd nd n).length ≤ n
  | 0 => Nat.le_refl _
  | n + 1 => by
    have := gvD_len y sl attrs hd nd n
    unfold gvD
    rw [List.length_append]
    split <;> simp <;> omega
set_option maxRecDepth 100000 in
set_option maxHeartbeats 8000000 in
theorem refGiven_any (y : Int) (s : ByteArray) (v1 v2 v3 : Value) (sl free : List Int) (attrs : List PA) (hd nd : ByteArray) (w : World) (h : DocSees w sl free attrs v1 v2 v3) (hl : sl.length = 64) (hal : attrs.length ≤ 1000000) (hy : 0 ≤ y) (hy2 : y + 64 ≤ 4294967296) (hy3 : y % 64 = 0) (hs : ∀ i, 0 ≤ sl.getD i 0 ∧ sl.getD i 0 ≤ attrs.length) :
    Calls Tryz.prog 24 #[docV y s v1 v2 v3, .string hd, .string nd] w fun e w' => ∃ v, e = .returned v ∧ RowU1 w' w.heap.size v (gvD y sl attrs hd nd 64) ∧ Below w.heap.size w w' := by
  obtain ⟨a1, c1, rfl⟩ := h.slots.slice
  obtain ⟨a2, c2, rfl⟩ := h.free.slice
  obtain ⟨a3, c3, rfl⟩ := h.attrs.slice
  rw [hl] at h ⊢
  have hb0 := belNew w (docO y s (.slice a1 64 c1) (.slice a2 free.length c2) (.slice a3 attrs.length c3))
  have hA := heap_alloc_new w (docO y s (.slice a1 64 c1) (.slice a2 free.length c2) (.slice a3 attrs.length c3))
  obtain ⟨W, hW⟩ : ∃ W, W = w.alloc (docO y s (.slice a1 64 c1) (.slice a2 free.length c2) (.slice a3 attrs.length c3)) := ⟨_, rfl⟩
  rw [← hW] at hb0 hA
  have HD := Lib.hid (show DocAt W w.heap.size y s (.slice a1 64 c1) (.slice a2 free.length c2) (.slice a3 attrs.length c3) from hA)
  have HS := Lib.hid (And.intro h (And.intro hs hl))
  have HB := Lib.hid hb0
  have HW := Lib.hid hW
  clear hA hb0 hW h hs hl
  go_enter Tryz.func24, Tryz.ntmps24
  go_upto_region 1 with fail
  change Code.wp _ _ _ _ (w.alloc (docO y s (.slice a1 64 c1) (.slice a2 free.length c2) (.slice a3 attrs.length c3)))
  rw [← HW.out]
  clear HW
  go_wp2_with fail
  go_loopw [7, 8] (fun x j wr => ∃ (i : Nat) (o : Option Addr) (n c : Nat), i ≤ 64 ∧ x = .slice o n c ∧ j = .int .i64 i ∧ Hid (RowU1 wr W.heap.size (.slice o n c) (gvD y sl attrs hd nd i) ∧ Below W.heap.size W wr)) (fun _ j _ => 64 - (intOf j).toNat)
  case atStart => exact ⟨0, none, 0, 0, Nat.zero_le _, rfl, rfl, Lib.hid ⟨RowG.nil _ _ _ _ _, Below.refl _ _⟩⟩
  case round =>
    obtain ⟨i, o, n, c, hi, rfl, rfl, HI⟩ := hrel
    by_cases hlt : i < 64
    · have d2 : decide ((i : Int) < 64) = true := by simp; omega
      have p2 : (i : Int) < 64 := by omega
      have w1 : IntKind.u32.wrap (i : Int) = (i : Int) := IntWalk.u32_in _ (by omega)
      have w2 : IntKind.u32.wrap (y + (i : Int)) = y + (i : Int) := IntWalk.u32_in _ (by omega)
      have w3 : IntKind.i64.wrap ((i : Int) + 1) = (i : Int) + 1 := IntWalk.i64_in _ (by omega)
      obtain ⟨k0, k1, k2, k3, k4⟩ := (HD.out.below HI.out.2).cells
      have hmod : (y + (i : Int)) % 64 = (i : Int) := by omega
      have hin : inB y (y + (i : Int)) = true := by unfold inB; simp; omega
      have hz : sl[((y + (i : Int)) % 64).toNat]? = some (sl.getD i 0) := by rw [hmod, Int.toNat_natCast, List.getD_eq_getElem?_getD, List.getElem?_eq_getElem (by have := HS.out.2.2; omega)]; rfl
      have hzr := HS.out.2.1 i
      have HLT := Lib.hid hlt
      have HBW := Lib.hid (bel HB.out HI.out.2)
      have HGL := Lib.hid (gvD_len y sl attrs hd nd i)
      by_cases hz0 : sl.getD i 0 = 0
      · have HG : Hid (gvD y sl attrs hd nd (i + 1) = gvD y sl attrs hd nd i) := Lib.hid (by
          have e : gvP sl attrs hd nd i = false := by unfold gvP; rw [hz0]; rfl
          show gvD y sl attrs hd nd i ++ _ = _
          rw [e, if_neg (by simp), List.append_nil])
        have HO := Lib.hid (refOf_no y s (.slice a1 64 c1) (.slice a2 free.length c2) (.slice a3 attrs.length c3) sl free attrs (y + (i : Int)) wr (HS.out.1.below HBW.out) HS.out.2.2 (by omega) (by omega) (Or.inr (by rw [hmod, Int.toNat_natCast]; exact hz0)))
        clear hz hmod hin hz0 hzr hlt
        go_upto_region 6 with (go_at_call 53; refine HO.out.mono ?_; rintro e w4 ⟨rfl, hb4⟩)
        have hb5 := bel hb4 (belNew w4 (rtO (em, em)))
        change Code.wp _ _ _ _ (w4.alloc (rtO (em, em)))
        generalize w4.alloc (rtO (em, em)) = w5 at *
        go_wp2_with fail
        go_roundw
        case rel => exact ⟨i + 1, o, n, c, HLT.out, rfl, by simp, Lib.hid ⟨by rw [HG.out]; exact HI.out.1.below hb5, bel HI.out.2 hb5⟩⟩
        case measure =>
          have := HLT.out
          simp only [intOf]
          omega
      · have hgen : ∀ kk, kk < attrs.length → attrs[kk]? = some (attrs.getD kk (em, em)) := fun kk hk => by
          rw [List.getD_eq_getElem?_getD, List.getElem?_eq_getElem hk]
          rfl
        have hpp : attrs[(sl.getD i 0 - 1).toNat]? = some (attrs.getD (sl.getD i 0 - 1).toNat (em, em)) := hgen _ (by omega)
        clear hgen
        have hgp : gvP sl attrs hd nd i = (((hd.toList == ([] : List UInt8)) || ((attrs.getD (sl.getD i 0 - 1).toNat (em, em)).1.toList == hd.toList)) && ((nd.toList == ([] : List UInt8)) || ((attrs.getD (sl.getD i 0 - 1).toNat (em, em)).2.toList == nd.toList))) := by
          have e : (sl.getD i 0 == 0) = false := by simpa using hz0
          unfold gvP
          rw [e]
          rfl
        generalize attrs.getD (sl.getD i 0 - 1).toNat (em, em) = p at hpp hgp
        have HGP := Lib.hid hgp
        have HO := Lib.hid (refOf_yes y s (.slice a1 64 c1) (.slice a2 free.length c2) (.slice a3 attrs.length c3) sl free attrs (y + (i : Int)) (sl.getD i 0) p wr (HS.out.1.below HBW.out) HS.out.2.2 hal (by omega) (by omega) hin hz (by omega) hpp)
        clear hz hmod hin hz0 hzr hlt hpp hgp
        go_upto_region 6 with (go_at_call 53; refine HO.out.mono ?_; rintro e w4 ⟨rfl, hb4⟩)
        have hx5 := heap_alloc_new w4 (rtO p)
        have hb5 := bel hb4 (belNew w4 (rtO p))
        obtain ⟨bp, hbp⟩ : ∃ bp, bp = w4.heap.size := ⟨_, rfl⟩
        change Code.wp _ _ _ _ (w4.alloc (rtO p))
        rw [← hbp] at hx5 ⊢
        generalize w4.alloc (rtO p) = w5 at *
        have t0 := cell0 hx5
        have t1 := cell1 hx5
        have HX := Lib.hid (And.intro (HI.out.1.below hb5) (bel HI.out.2 hb5))
        obtain ⟨k0, k1, k2, k3, k4⟩ := (HD.out.below HX.out.2).cells
        clear hb4 hb5 hx5 hbp HO HI
        cases ht1 : (hd.toList == ([] : List UInt8)) with
        | true =>
          cases ht3 : (nd.toList == ([] : List UInt8)) with
          | true =>
            have HG : Hid (gvD y sl attrs hd nd (i + 1) = gvD y sl attrs hd nd i ++ [y + (i : Int)]) := Lib.hid (by
              have e : gvP sl attrs hd nd i = true := by rw [HGP.out]; simp [*]
              show gvD y sl attrs hd nd i ++ _ = _
              rw [e, if_pos rfl])
            go_upto_region 4 with (at_builtin; refine wpList_pushG (w0 := w5) (T := 39) (E := 22) (enc := encU1) Tryz.underlying39 infoU rfl (by decide) (by decide) (fun _ => rfl) encU1_one rfl (.tmp 46) (.tmp 52) rfl W.heap.size (.slice o n c) (gvD y sl attrs hd nd i) (y + (i : Int)) w5.heap.size rfl rfl rfl HX.out.1 (by have := HGL.out; omega) HX.out.2.size ?_; intro v6 w6 ho6 hb6 _ _; have H6 := Lib.hid (And.intro ho6 hb6); obtain ⟨o6, c6, rfl⟩ := ho6.slice; clear ho6 hb6)
            have e6 : (gvD y sl attrs hd nd i ++ [y + (i : Int)]).length = (gvD y sl attrs hd nd i).length + 1 := by simp
            rw [e6, ← HG.out] at H6
            clear e6
            go_wp2_with fail
            go_roundw
            case rel => exact ⟨i + 1, _, _, _, HLT.out, rfl, by simp, Lib.hid ⟨H6.out.1, HX.out.2.trans H6.out.2⟩⟩
            case measure =>
              have := HLT.out
              simp only [intOf]
              omega
          | false =>
            cases ht4 : (p.2.toList == nd.toList) with
            | true =>
              have HG : Hid (gvD y sl attrs hd nd (i + 1) = gvD y sl attrs hd nd i ++ [y + (i : Int)]) := Lib.hid (by
                have e : gvP sl attrs hd nd i = true := by rw [HGP.out]; simp [*]
                show gvD y sl attrs hd nd i ++ _ = _
                rw [e, if_pos rfl])
              go_upto_region 4 with (at_builtin; refine wpList_pushG (w0 := w5) (T := 39) (E := 22) (enc := encU1) Tryz.underlying39 infoU rfl (by decide) (by decide) (fun _ => rfl) encU1_one rfl (.tmp 46) (.tmp 52) rfl W.heap.size (.slice o n c) (gvD y sl attrs hd nd i) (y + (i : Int)) w5.heap.size rfl rfl rfl HX.out.1 (by have := HGL.out; omega) HX.out.2.size ?_; intro v6 w6 ho6 hb6 _ _; have H6 := Lib.hid (And.intro ho6 hb6); obtain ⟨o6, c6, rfl⟩ := ho6.slice; clear ho6 hb6)
              have e6 : (gvD y sl attrs hd nd i ++ [y + (i : Int)]).length = (gvD y sl attrs hd nd i).length + 1 := by simp
              rw [e6, ← HG.out] at H6
              clear e6
              go_wp2_with fail
              go_roundw
              case rel => exact ⟨i + 1, _, _, _, HLT.out, rfl, by simp, Lib.hid ⟨H6.out.1, HX.out.2.trans H6.out.2⟩⟩
              case measure =>
                have := HLT.out
                simp only [intOf]
                omega
            | false =>
              have HG : Hid (gvD y sl attrs hd nd (i + 1) = gvD y sl attrs hd nd i) := Lib.hid (by
                have e : gvP sl attrs hd nd i = false := by rw [HGP.out]; simp [*]
                show gvD y sl attrs hd nd i ++ _ = _
                rw [e, if_neg (by simp), List.append_nil])
              go_wp2_with fail
              go_roundw
              case rel => exact ⟨i + 1, o, n, c, HLT.out, rfl, by simp, Lib.hid ⟨by rw [HG.out]; exact HX.out.1, HX.out.2⟩⟩
              case measure =>
                have := HLT.out
                simp only [intOf]
                omega
        | false =>
          cases ht2 : (p.1.toList == hd.toList) with
          | true =>
            cases ht3 : (nd.toList == ([] : List UInt8)) with
            | true =>
              have HG : Hid (gvD y sl attrs hd nd (i + 1) = gvD y sl attrs hd nd i ++ [y + (i : Int)]) := Lib.hid (by
                have e : gvP sl attrs hd nd i = true := by rw [HGP.out]; simp [*]
                show gvD y sl attrs hd nd i ++ _ = _
                rw [e, if_pos rfl])
              go_upto_region 4 with (at_builtin; refine wpList_pushG (w0 := w5) (T := 39) (E := 22) (enc := encU1) Tryz.underlying39 infoU rfl (by decide) (by decide) (fun _ => rfl) encU1_one rfl (.tmp 46) (.tmp 52) rfl W.heap.size (.slice o n c) (gvD y sl attrs hd nd i) (y + (i : Int)) w5.heap.size rfl rfl rfl HX.out.1 (by have := HGL.out; omega) HX.out.2.size ?_; intro v6 w6 ho6 hb6 _ _; have H6 := Lib.hid (And.intro ho6 hb6); obtain ⟨o6, c6, rfl⟩ := ho6.slice; clear ho6 hb6)
              have e6 : (gvD y sl attrs hd nd i ++ [y + (i : Int)]).length = (gvD y sl attrs hd nd i).length + 1 := by simp
              rw [e6, ← HG.out] at H6
              clear e6
              go_wp2_with fail
              go_roundw
              case rel => exact ⟨i + 1, _, _, _, HLT.out, rfl, by simp, Lib.hid ⟨H6.out.1, HX.out.2.trans H6.out.2⟩⟩
              case measure =>
                have := HLT.out
                simp only [intOf]
                omega
            | false =>
              cases ht4 : (p.2.toList == nd.toList) with
              | true =>
                have HG : Hid (gvD y sl attrs hd nd (i + 1) = gvD y sl attrs hd nd i ++ [y + (i : Int)]) := Lib.hid (by
                  have e : gvP sl attrs hd nd i = true := by rw [HGP.out]; simp [*]
                  show gvD y sl attrs hd nd i ++ _ = _
                  rw [e, if_pos rfl])
                go_upto_region 4 with (at_builtin; refine wpList_pushG (w0 := w5) (T := 39) (E := 22) (enc := encU1) Tryz.underlying39 infoU rfl (by decide) (by decide) (fun _ => rfl) encU1_one rfl (.tmp 46) (.tmp 52) rfl W.heap.size (.slice o n c) (gvD y sl attrs hd nd i) (y + (i : Int)) w5.heap.size rfl rfl rfl HX.out.1 (by have := HGL.out; omega) HX.out.2.size ?_; intro v6 w6 ho6 hb6 _ _; have H6 := Lib.hid (And.intro ho6 hb6); obtain ⟨o6, c6, rfl⟩ := ho6.slice; clear ho6 hb6)
                have e6 : (gvD y sl attrs hd nd i ++ [y + (i : Int)]).length = (gvD y sl attrs hd nd i).length + 1 := by simp
                rw [e6, ← HG.out] at H6
                clear e6
                go_wp2_with fail
                go_roundw
                case rel => exact ⟨i + 1, _, _, _, HLT.out, rfl, by simp, Lib.hid ⟨H6.out.1, HX.out.2.trans H6.out.2⟩⟩
                case measure =>
                  have := HLT.out
                  simp only [intOf]
                  omega
              | false =>
                have HG : Hid (gvD y sl attrs hd nd (i + 1) = gvD y sl attrs hd nd i) := Lib.hid (by
                  have e : gvP sl attrs hd nd i = false := by rw [HGP.out]; simp [*]
                  show gvD y sl attrs hd nd i ++ _ = _
                  rw [e, if_neg (by simp), List.append_nil])
                go_wp2_with fail
                go_roundw
                case rel => exact ⟨i + 1, o, n, c, HLT.out, rfl, by simp, Lib.hid ⟨by rw [HG.out]; exact HX.out.1, HX.out.2⟩⟩
                case measure =>
                  have := HLT.out
                  simp only [intOf]
                  omega
          | false =>
            have HG : Hid (gvD y sl attrs hd nd (i + 1) = gvD y sl attrs hd nd i) := Lib.hid (by
              have e : gvP sl attrs hd nd i = false := by rw [HGP.out]; simp [*]
              show gvD y sl attrs hd nd i ++ _ = _
              rw [e, if_neg (by simp), List.append_nil])
            go_wp2_with fail
            go_roundw
            case rel => exact ⟨i + 1, o, n, c, HLT.out, rfl, by simp, Lib.hid ⟨by rw [HG.out]; exact HX.out.1, HX.out.2⟩⟩
            case measure =>
              have := HLT.out
              simp only [intOf]
              omega
    · obtain rfl : i = 64 := by omega
      have d2 : decide (((64 : Nat) : Int) < 64) = false := by decide
      have p2 : ¬ (((64 : Nat) : Int) < 64) := by decide
      go_wp2_with fail
      go_ret
      exact ⟨_, rfl, RowG.le HI.out.1 HB.out.size, bel HB.out HI.out.2⟩
end
end Go.Proofs.YtgodmnpcedfdcaaGreat
