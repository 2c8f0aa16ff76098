import Derived.Test.YtkldglhihfjclaaGreatDoorEvL
import Derived.Laws.AppendOwn
namespace Go.Ev
noncomputable section
variable {P : Program} {K : Nat → Bool} {w0 w : World} {σ : St} {E : Env}

/-! append -/
/-- What is to be appended: the cells of so many elements. -/
def addOf (σ : St) (sz : Nat) (x : Value) : Option (Nat × List Value) := match x with
  | .slice none _ _ => some (0, [])
  | .slice (some a) n _ => match σ.get a.block with
    | some (.cells cs _ _ _) => match Nat.beq ((cs.drop a.off).take (n * sz)).length (n * sz) with
      | true => some (n, (cs.drop a.off).take (n * sz))
      | false => none
    | _ => none
  | .string s => match Nat.beq sz 1 with
    | true => some (s.data.toList.length, s.data.toList.map fun b => .int .u8 b.toNat)
    | false => none
  | _ => none
theorem addOf_sound {sz n : Nat} {x : Value} {l : List Value} (h : addOf σ sz x = some (n, l)) (hr : Rel K w0 σ E w) (hx : ok σ.next E x) :
    (∀ w', (Builtin.lenOf (ren E x)).run P w' = .ok n w') ∧ (Builtin.firstCells sz n (ren E x)).run P w = .ok (l.map (ren E)).toArray w ∧ l.length = n * sz ∧ (∀ v ∈ l, ok σ.next E v ∧ v.oneCell' = true) ∧
    (∀ wq w', Rel K wq σ E w' → (Builtin.firstCells sz n (ren E x)).run P w' = .ok (l.map (ren E)).toArray w') := by
  have key : ∀ wq w', Rel K wq σ E w' → (∀ w', (Builtin.lenOf (ren E x)).run P w' = .ok n w') ∧ (Builtin.firstCells sz n (ren E x)).run P w' = .ok (l.map (ren E)).toArray w' ∧ l.length = n * sz ∧ (∀ v ∈ l, ok σ.next E v ∧ v.oneCell' = true) := by
    intro wq w' hr'
    unfold addOf at h
    split at h
    · cases h
      exact ⟨fun w' => by simp [Builtin.lenOf, ren] <;> simp_all [ok], by simp [Builtin.firstCells, ren], by simp, by simp⟩
    · rename_i a n' c
      split at h
      · rename_i cs e g s hb
        split at h
        · rename_i hl
          cases h
          have hl' := Nat.eq_of_beq_eq_true hl
          simp only [ok] at hx
          refine ⟨fun w' => by simp [Builtin.lenOf, ren], ?_, hl', fun v hv => hr'.good _ _ _ _ _ hb v (List.mem_of_mem_drop (List.mem_of_mem_take hv))⟩
          have hrange := range_sub hr' hb a.off (n * sz)
          have h4 := run_loadCells_list (P := P) w' (rRow E a c) (((cs.drop a.off).take (n * sz)).map (ren E)) (fun j v hj => by
            have hpos : 0 < n := by
              have hj' := (List.getElem?_eq_some_iff.mp hj).1
              rw [List.length_map, hl'] at hj'
              rcases Nat.eq_zero_or_pos n with h0 | h0
              · rw [h0, Nat.zero_mul] at hj'; omega
              · exact h0
            have hne : (E a.block).cap - c ≠ 0 := by omega
            simp only [rRow, if_neg hne, add_none]
            exact hrange j v hj)
          rw [List.length_map, hl'] at h4
          simpa [Builtin.firstCells, ren] using h4
        · cases h
      · cases h
    · rename_i s
      split at h
      · rename_i h1
        have h1 := Nat.eq_of_beq_eq_true h1
        cases h
        subst h1
        refine ⟨fun w' => by simp [Builtin.lenOf, ren], ?_, by simp, ?_⟩
        · simp only [Builtin.firstCells, ren, Sem.run_pure]
          congr 1
          apply Array.ext'
          have : (s.extract 0 s.data.toList.length).data = s.data := by
            simp [ByteArray.extract, ByteArray.copySlice]
          rw [this]
          simp [ren]
        · intro v hv
          obtain ⟨b, _, rfl⟩ := List.mem_map.mp hv
          exact ⟨by simp [ok], rfl⟩
      · cases h
    · cases h
  obtain ⟨k1, k2, k3, k4⟩ := key w0 w hr
  exact ⟨k1, k2, k3, k4, fun wq w' hw' => (key wq w' hw').2.1⟩

theorem growBy_le (need : Nat) : ∀ (r c : Nat), c ≤ 2 * need + 768 → Builtin.growBy need r c ≤ 2 * need + 768
  | 0, c, h => h
  | r + 1, c, h => by
    unfold Builtin.growBy
    split
    · exact h
    · exact growBy_le need r _ (by omega)
theorem nextcap_le (need old : Nat) (h : old < need) : Builtin.nextslicecap need old ≤ 2 * need + 768 := by
  unfold Builtin.nextslicecap
  split
  · omega
  · split
    · omega
    · exact growBy_le need 4 old (by omega)
def bytesOfT (P : Program) (t : TypeId) : Option Nat := (P.info? t).map (·.bytes)
theorem run_bytes {t n : Nat} (h : bytesOfT P t = some n) (w : World) : ∃ i, (typeInfo t).run P w = .ok i w ∧ i.bytes = n := by
  unfold bytesOfT at h
  cases hq : P.info? t with
  | none => simp [hq] at h
  | some i => simp [hq] at h; exact ⟨i, by simp [typeInfo, hq], h⟩

def notIntT (P : Program) (t : TypeId) : Bool := match P.underlying t with
  | some (.int _) => false
  | some _ => true
  | none => false
theorem notIntT_spec {t : TypeId} (h : notIntT P t = true) : ∃ d, P.underlying t = some d ∧ (d matches .int _) = false := by
  unfold notIntT at h
  split at h
  · cases h
  · rename_i d hne hu
    refine ⟨d, hu, ?_⟩
    cases d <;> first | rfl | exact absurd rfl (hne _)
  · cases h

/-- The way of a row that has no room. -/
theorem append_grows {sT xT e n m : Nat} {i : TypeInfo} {zv : Value} {base : Option Addr} {cap : Nat} {x : Value} {old new : Array Value} {ty : TypeId} {w : World}
    (hs : sliceT P sT = some e) (hi : P.info? e = some i) (hz : i.zero = some zv) (hx : notIntT P xT = true)
    (hbl : i.bytes ≤ 1048576) (hn : m + n ≤ 1000000) (hcap : ¬ m + n ≤ cap)
    (hlen : ∀ w', (Builtin.lenOf x).run P w' = .ok n w') (hold : ∀ w', w'.heap = w.heap → (Builtin.firstCells i.size m (.slice base m cap)).run P w' = .ok old w')
    (hnew : ∀ w', w'.heap = w.heap → (Builtin.firstCells i.size n x).run P w' = .ok new w') :
    (Builtin.append_ #[sT, xT] ty #[.slice base m cap, x]).run P w =
      .ok (.slice (some ⟨w.heap.size, 0, none⟩) (m + n) (grownCap w (m + n) cap e)) { w.drew with heap := w.heap.push (.cells (old ++ new ++ Builtin.zeroCells zv.cells (grownCap w (m + n) cap e - (m + n))) e (0, 0)) } := by
  obtain ⟨d, hd1, hd2⟩ := notIntT_spec hx
  have hu := sliceT_spec hs
  have h2 : Builtin.nextslicecap (m + n) cap * i.bytes ≤ 2 ^ 48 := by
    have h3 := nextcap_le (m + n) cap (by omega)
    calc Builtin.nextslicecap (m + n) cap * i.bytes ≤ (2 * (m + n) + 768) * 1048576 := Nat.mul_le_mul h3 hbl
      _ ≤ (2 * 1000000 + 768) * 1048576 := Nat.mul_le_mul (by omega) (Nat.le_refl _)
      _ ≤ 2 ^ 48 := by decide
  have h4 : ¬ (281474976710656 < Builtin.nextslicecap (m + n) cap * i.bytes) := by omega
  have h5 : ¬ (9223372036854775807 < ((m : Int) + (n : Int))) := by omega
  have e1 := hold w.drew rfl
  have e2 := hnew w.drew rfl
  have hti : ∀ w', (typeInfo e).run P w' = .ok i w' := fun w' => by simp [typeInfo, hi]
  have hso : ∀ w', (sizeOf e).run P w' = .ok i.size w' := fun w' => by simp [sizeOf, typeInfo, hi]
  have hzv : ∀ w', (zeroValue e).run P w' = .ok zv w' := fun w' => by simp [zeroValue, typeInfo, hi, hz]
  have hch : (choose (.appendCap (m + n) cap e)).run P w = .ok (grownCap w (m + n) cap e) w.drew := by simp [Question.forced, grownCap]
  unfold Builtin.append_
  simp only [List.getElem?_toArray, List.getElem?_cons_zero, List.getElem?_cons_succ, Sem.run_bind, run_underlying hu, Result.andThen_ok, hso]
  rw [run_underlying hd1]
  have h6 : (((m + n : Nat) : Int) > IntKind.i64.max) = False := by
    have : IntKind.i64.max = 9223372036854775807 := by decide
    rw [this]; simp; omega
  have h7 : (Builtin.nextslicecap (m + n) cap * i.bytes > 2 ^ 48) = False := by simp; omega
  cases d <;> first | (simp at hd2; done) | skip
  all_goals simp only [Result.andThen_ok, Sem.run_pure, Bool.false_eq_true, if_false, Bool.not_false, if_true, Sem.run_bind, hlen, if_neg hcap, hti, h6, false_and, h7, hch, run_askRoom, e1, e2, hzv, newRow, run_newObj]
  all_goals rfl

theorem append_stays {sT xT e n m : Nat} {i : TypeInfo} {base : Option Addr} {cap : Nat} {x : Value} {new : Array Value} {ty : TypeId} {w w' : World}
    (hs : sliceT P sT = some e) (hi : P.info? e = some i) (hx : notIntT P xT = true) (hcap : m + n ≤ cap)
    (hlen : ∀ w', (Builtin.lenOf x).run P w' = .ok n w') (hnew : (Builtin.firstCells i.size n x).run P w = .ok new w)
    (hst : match base with | some a => (storeCells (a.add (m * i.size)) new.toList).run P w = .ok () w' | none => w' = w) :
    (Builtin.append_ #[sT, xT] ty #[.slice base m cap, x]).run P w = .ok (.slice base (m + n) cap) w' := by
  obtain ⟨d, hd1, hd2⟩ := notIntT_spec hx
  have hu := sliceT_spec hs
  have hso : ∀ w', (sizeOf e).run P w' = .ok i.size w' := fun w' => by simp [sizeOf, typeInfo, hi]
  unfold Builtin.append_
  simp only [List.getElem?_toArray, List.getElem?_cons_zero, List.getElem?_cons_succ, Sem.run_bind, run_underlying hu, Result.andThen_ok, hso]
  rw [run_underlying hd1]
  cases d <;> first | (simp at hd2; done) | skip
  all_goals simp only [Result.andThen_ok, Sem.run_pure, Bool.false_eq_true, if_false, Bool.not_false, if_true, Sem.run_bind, hlen, if_pos hcap, hnew]
  all_goals
    cases base with
    | none => subst hst; rfl
    | some a => simp only [Sem.run_bind, hst, Result.andThen_ok, Sem.run_pure]

def eAppend0 (P : Program) (σ : St) (sT xT : TypeId) (s x : Value) : Option (Value × St) :=
  match sliceT P sT, notIntT P xT with
  | some e, true => match szT P e, bytesOfT P e, zeroT P e with
    | some (sz + 1), some by_, some z => match addOf σ (sz + 1) x, Nat.ble by_ 1048576 && Nat.beq z.length (sz + 1) with
      | some (n, l), true => match s with
        | .slice none m c => match n with
          | 0 => some (.slice none m c, σ)
          | n' + 1 => match Nat.ble (n' + 1) 1000000 && Nat.beq m 0 with
            | true => match aNew σ l (sz + 1) with
              | some σ' => some (rowOf σ.next (n' + 1), σ')
              | none => none
            | false => none
        | .slice (some a) m c => match n with
          | 0 => some (.slice (some a) m c, σ)
          | n' + 1 => match σ.get a.block with
            | some (.cells cs esz g gs) => match Nat.beq esz (sz + 1) && Nat.beq a.off (c * (sz + 1)) && Nat.ble (a.off + m * (sz + 1)) cs.length && Nat.ble (m + (n' + 1)) 1000000 && σ.room with
              | true => some (rowOf σ.next (m + (n' + 1)), ((σ.hit σ.next (gs + a.off + m * (sz + 1)) l.length (σ.kin g)).newIn ((cs.drop a.off).take (m * (sz + 1)) ++ l) (sz + 1) g (gs + a.off)).prune g)
              | false => none
            | _ => none
        | _ => none
      | _, _ => none
    | _, _, _ => none
  | _, _ => none

theorem zeroCells_size (z : Array Value) (n : Nat) : (Builtin.zeroCells z n).size = n * z.size := by simp [Builtin.zeroCells]

theorem eAppend0_sound {sT xT ty : TypeId} {s x v : Value} {σ' : St} (h : eAppend0 P σ sT xT s x = some (v, σ')) (hr : Rel K w0 σ E w) (hs : ok σ.next E s) (hx : ok σ.next E x) :
    Leads K w0 σ E v σ' ((do pure (.value (← Builtin.append_ #[sT, xT] ty #[ren E s, ren E x])) : Sem Next).run P w) := by
  unfold eAppend0 at h
  split at h
  · rename_i e he hni
    split at h
    · rename_i sz by_ z hsz hby hz
      split at h
      · rename_i n l hadd hc
        simp only [Bool.and_eq_true] at hc
        have hc1 := Nat.le_of_ble_eq_true hc.1
        have hc2 := Nat.eq_of_beq_eq_true hc.2
        obtain ⟨a1, a2, a3, a4, a5⟩ := addOf_sound (P := P) hadd hr hx
        -- the row of the element's type
        obtain ⟨i, hi, hisz, hiby⟩ : ∃ i, P.info? e = some i ∧ i.size = sz + 1 ∧ i.bytes = by_ := by
          unfold szT at hsz; unfold bytesOfT at hby
          cases hq : P.info? e with
          | none => simp [hq] at hsz
          | some i => simp [hq] at hsz hby; exact ⟨i, rfl, hsz, hby⟩
        obtain ⟨zv, hzv, hzc⟩ : ∃ zv, i.zero = some zv ∧ zv.cells = z.toArray := by
          unfold zeroT at hz
          rw [hi] at hz
          simp only [Option.bind_some] at hz
          split at hz
          · rename_i u hu
            split at hz
            · cases hz; exact ⟨u, hu, by simp⟩
            · cases hz
          · cases hz
        rw [← hisz] at a2 a5
        have hzs : zv.cells.size = sz + 1 := by rw [hzc]; simpa using hc2
        -- in place, nothing is added
        split at h
        · rename_i m c
          simp only [ok] at hs
          obtain ⟨rfl, rfl⟩ := hs
          split at h
          · cases h
            have := append_stays (P := P) (ty := ty) (base := none) (m := 0) (cap := 0) (w' := w) he hi hni (Nat.le_refl 0) a1 a2 rfl
            rw [Sem.run_bind]
            simp only [ren, this, Result.andThen_ok, Sem.run_pure]
            exact ⟨E, w, _, rfl, Or.inl rfl, hr, Ext.refl _ _, by simp [ok], Nat.le_refl _⟩
          · rename_i n'
            simp only [Nat.succ_eq_add_one] at a3
            split at h
            · rename_i hm
              simp only [Bool.and_eq_true] at hm
              have hm1 := Nat.le_of_ble_eq_true hm.1
              split at h
              · rename_i st hst
                cases h
                have hg := append_grows (P := P) (ty := ty) (base := none) (m := 0) (cap := 0) (w := w) (old := #[]) he hi hzv hni (by omega) (by omega) (by omega) a1
                  (fun w' _ => by simp [Builtin.firstCells]) (fun w' hw' => a5 _ w' (hr.heap_any hw'))
                generalize hgc : grownCap w (0 + (n' + 1)) 0 e = gc at hg
                have hgcl : n' + 1 ≤ gc := by rw [← hgc, Nat.zero_add]; exact grownCap_ge w _ _ _
                have hN := aNew_sound hst (hr.heap_eq (w' := w.drew) rfl ⟨rfl, rfl, rfl⟩) (fun v hv => (a4 v hv).1) (#[] ++ (l.map (ren E)).toArray ++ Builtin.zeroCells zv.cells (gc - (0 + (n' + 1)))) e (0, 0) gc
                  (by intro j v hj; simp; rw [Array.getElem?_append_left (by simp; have := (List.getElem?_eq_some_iff.mp hj).1; simpa using this)]; simpa using hj)
                  (by
                    simp only [Array.size_append, zeroCells_size, hzs, List.size_toArray, List.length_map, a3, List.length_nil, Nat.zero_add]
                    have : gc * (sz + 1) = (n' + 1) * (sz + 1) + (gc - (n' + 1)) * (sz + 1) := by rw [← Nat.add_mul]; congr 1; omega
                    have : (n' + 1) * (sz + 1) ≤ gc * (sz + 1) := Nat.mul_le_mul_right _ hgcl
                    omega)
                  (Or.inl rfl)
                rw [Sem.run_bind]
                simp only [ren, hg, Result.andThen_ok, Sem.run_pure]
                have e1 := ren_rowOf (E := E) σ.next w.heap.size (n' + 1) gc
                rw [Nat.zero_add] at hN ⊢
                refine ⟨_, _, _, rfl, Or.inl ?_, hN.1, upd_ext E _ _, by simp only [rowOf, ok, upd_same, hN.2]; omega, by omega⟩
                exact congrArg Next.value e1.symm
              · cases h
            · cases h
        · rename_i a m c
          simp only [ok] at hs
          split at h
          · cases h
            have hl0 : l = [] := by
              have : l.length = 0 := by rw [a3]; simp
              exact List.eq_nil_of_length_eq_zero this
            subst hl0
            have := append_stays (P := P) (ty := ty) (base := some (rRow E a c)) (m := m) (cap := (E a.block).cap - c) (w' := w) he hi hni (by omega) a1 a2 (by simp [storeCells])
            rw [Sem.run_bind]
            simp only [ren, this, Result.andThen_ok, Sem.run_pure]
            exact ⟨E, w, _, rfl, Or.inl rfl, hr, Ext.refl _ _, by simp only [ok]; exact hs, Nat.le_refl _⟩
          · rename_i n'
            simp only [Nat.succ_eq_add_one] at a3
            split at h
            · rename_i cs esz g gs hb
              split at h
              · rename_i hm
                simp only [Bool.and_eq_true] at hm
                obtain ⟨⟨⟨⟨m1, m2⟩, m3⟩, m4⟩, m5⟩ := hm
                have m1 := Nat.eq_of_beq_eq_true m1
                have m2 := Nat.eq_of_beq_eq_true m2
                have m3 := Nat.le_of_ble_eq_true m3
                have m4 := Nat.le_of_ble_eq_true m4
                subst m1
                cases h
                have hcle : c * (sz + 1) + ((E a.block).cap - c) * (sz + 1) = (E a.block).cap * (sz + 1) := by rw [← Nat.add_mul]; congr 1; omega
                by_cases hfit : m + (n' + 1) ≤ (E a.block).cap - c
                · have hne : (E a.block).cap - c ≠ 0 := by omega
                  have hmul : m * (sz + 1) + (n' + 1) * (sz + 1) ≤ ((E a.block).cap - c) * (sz + 1) := by rw [← Nat.add_mul]; exact Nat.mul_le_mul_right _ hfit
                  have hL := hr.longer m5 hb a.off (m * (sz + 1)) l ((E a.block).cap - c) m3 a4 (by omega) (by omega) (σ.kin g) (fun _ => rfl)
                  have hth := hr.there _ _ _ _ _ hb
                  have hrun := run_storeCells_cells (P := P) (E a.block).blk ((E a.block).off + a.off + m * (sz + 1)) (l.map (ren E)) 0 w
                    (fun j hj => by have := (hth (a.off + m * (sz + 1) + j) (by rw [List.length_map] at hj; omega)).1; rw [← Nat.add_assoc, ← Nat.add_assoc] at this; simpa using this)
                    (fun j hj => by have := (hth (a.off + m * (sz + 1) + j) (by rw [List.length_map] at hj; omega)).2; rw [← Nat.add_assoc, ← Nat.add_assoc] at this; simpa using this)
                    (fun v hv => by obtain ⟨u, hu, rfl⟩ := List.mem_map.mp hv; rw [ren_oneCell]; exact (a4 u hu).2)
                  simp only [Nat.add_zero] at hrun
                  have hap := append_stays (P := P) (ty := ty) (base := some (rRow E a c)) (m := m) (cap := (E a.block).cap - c) he hi hni hfit a1 a2
                    (by simp only [rRow, if_neg hne, add_none, hisz]; exact hrun)
                  rw [Sem.run_bind]
                  simp only [ren, hap, Result.andThen_ok, Sem.run_pure]
                  have hgk := (hr.kin _ _ _ _ _ hb).2
                  obtain ⟨hP, hPn⟩ := hL.prune g (by show g < (St.hit _ _ _ _ _).next + 1; rw [hit_next]; omega)
                  refine ⟨_, _, _, rfl, Or.inl ?_, hP, upd_ext E _ _, ?_, ?_⟩
                  · simp [rowOf, ren, rRow, upd_same, hne]
                  · rw [hPn]; simp only [rowOf, ok, upd_same]; exact ⟨by show σ.next < (St.hit _ _ _ _ _).next + 1; rw [hit_next]; omega, by omega⟩
                  · rw [hPn]; show σ.next ≤ (St.hit _ _ _ _ _).next + 1; rw [hit_next]; omega
                · have hh := hr.hit σ.next (gs + a.off + m * (sz + 1)) l.length (σ.kin g)
                  generalize hσ1 : σ.hit σ.next (gs + a.off + m * (sz + 1)) l.length (σ.kin g) = σ1 at hh ⊢
                  have hn1 : σ1.next = σ.next := by rw [← hσ1]; exact hit_next _ _ _ _ _
                  have hold : ∀ w', w'.heap = w.heap → (Builtin.firstCells i.size m (.slice (some (rRow E a c)) m ((E a.block).cap - c))).run P w' = .ok (((cs.drop a.off).take (m * (sz + 1))).map (ren E)).toArray w' := by
                    intro w' hw'
                    have hr' := hr.heap_any hw'
                    have hrange := range_sub hr' hb a.off (m * (sz + 1))
                    have hlen : ((cs.drop a.off).take (m * (sz + 1))).length = m * (sz + 1) := by simp; omega
                    have h4 := run_loadCells_list (P := P) w' (rRow E a c) (((cs.drop a.off).take (m * (sz + 1))).map (ren E)) (fun j v hj => by
                      have hpos : 0 < m := by
                        have hj' := (List.getElem?_eq_some_iff.mp hj).1
                        rw [List.length_map, hlen] at hj'
                        rcases Nat.eq_zero_or_pos m with h0 | h0
                        · rw [h0, Nat.zero_mul] at hj'; omega
                        · exact h0
                      have hne : (E a.block).cap - c ≠ 0 := by omega
                      simp only [rRow, if_neg hne, add_none]
                      exact hrange j v hj)
                    rw [List.length_map, hlen] at h4
                    simpa [Builtin.firstCells, hisz] using h4
                  have hg := append_grows (P := P) (ty := ty) (base := some (rRow E a c)) (m := m) (cap := (E a.block).cap - c) (w := w) he hi hzv hni (by omega) m4 hfit a1
                    hold (fun w' hw' => a5 _ w' (hr.heap_any hw'))
                  generalize hgc : grownCap w (m + (n' + 1)) ((E a.block).cap - c) e = gc at hg
                  have hgcl : m + (n' + 1) ≤ gc := by rw [← hgc]; exact grownCap_ge w _ _ _
                  have hgood := hr.good _ _ _ _ _ hb
                  have hok : ∀ v ∈ (cs.drop a.off).take (m * (sz + 1)) ++ l, ok σ1.next E v ∧ v.oneCell' = true := by
                    rw [hn1]
                    intro v hv
                    rcases List.mem_append.mp hv with hv | hv
                    · exact hgood v (List.mem_of_mem_drop (List.mem_of_mem_take hv))
                    · exact a4 v hv
                  have hgk := (hr.kin _ _ _ _ _ hb).2
                  have hroom1 : σ1.room = true := by unfold St.room; rw [hn1]; exact m5
                  have hN := (hh.heap_eq (w' := w.drew) rfl ⟨rfl, rfl, rfl⟩).push hroom1 ((cs.drop a.off).take (m * (sz + 1)) ++ l) ((((cs.drop a.off).take (m * (sz + 1))).map (ren E)).toArray ++ (l.map (ren E)).toArray ++ Builtin.zeroCells zv.cells (gc - (m + (n' + 1)))) e (0, 0) (sz + 1) gc g (gs + a.off) (by rw [hn1]; omega) hok
                    (by intro j v hj
                        rw [Array.getElem?_append_left (by have := (List.getElem?_eq_some_iff.mp hj).1; simp at this ⊢; omega)]
                        rw [List.map_append] at hj
                        simpa using hj)
                    (by
                      simp only [Array.size_append, zeroCells_size, hzs, List.size_toArray, List.length_map, a3, List.length_append, List.length_take, List.length_drop]
                      have e1 : gc * (sz + 1) = m * (sz + 1) + (n' + 1) * (sz + 1) + (gc - (m + (n' + 1))) * (sz + 1) := by rw [← Nat.add_mul, ← Nat.add_mul]; congr 1; omega
                      omega)
                    (Or.inl rfl)
                  rw [Sem.run_bind]
                  simp only [ren, hg, Result.andThen_ok, Sem.run_pure]
                  rw [hn1] at hN
                  obtain ⟨hP, hPn⟩ := hN.prune g (by show g < σ1.next + 1; omega)
                  refine ⟨_, _, _, rfl, Or.inl ?_, hP, upd_ext E _ _, ?_, ?_⟩
                  · exact congrArg Next.value (ren_rowOf (E := E) σ.next w.heap.size (m + (n' + 1)) gc).symm
                  · rw [hPn]; simp only [rowOf, ok, upd_same]; exact ⟨by show σ.next < σ1.next + 1; omega, by omega⟩
                  · rw [hPn]; show σ.next ≤ σ1.next + 1; omega
              · cases h
            · cases h
        · cases h
      · cases h
    · cases h
  · cases h

/-! The same, in small steps. -/
def apT (P : Program) (sT xT : TypeId) : Option Nat := match sliceT P sT, notIntT P xT with
  | some e, true => match szT P e, bytesOfT P e, zeroT P e with
    | some (sz + 1), some by_, some z => match Nat.ble by_ 1048576 && Nat.beq z.length (sz + 1) with
      | true => some sz
      | false => none
    | _, _, _ => none
  | _, _ => none
def apCells (sz : Nat) (σ : St) (n' : Nat) (l : List Value) (a : Addr) (m c : Nat) (cs : List Value) (esz g gs : Nat) : Option (Value × St) :=
  match Nat.beq esz (sz + 1) && Nat.beq a.off (c * (sz + 1)) && Nat.ble (a.off + m * (sz + 1)) cs.length && Nat.ble (m + (n' + 1)) 1000000 && σ.room with
  | true => some (rowOf σ.next (m + (n' + 1)), ((σ.hit σ.next (gs + a.off + m * (sz + 1)) l.length (σ.kin g)).newIn ((cs.drop a.off).take (m * (sz + 1)) ++ l) (sz + 1) g (gs + a.off)).prune g)
  | false => none
def apOb (sz : Nat) (σ : St) (n' : Nat) (l : List Value) (a : Addr) (m c : Nat) (o : Ob) : Option (Value × St) := match o with
  | .cells cs esz g gs => apCells sz σ n' l a m c cs esz g gs
  | _ => none
def apNil (sz : Nat) (σ : St) (n' : Nat) (l : List Value) (m : Nat) : Option (Value × St) := match Nat.ble (n' + 1) 1000000 && Nat.beq m 0 with
  | true => thn (aNew σ l (sz + 1)) fun σ' => some (rowOf σ.next (n' + 1), σ')
  | false => none
def apOne (sz : Nat) (σ : St) (n' : Nat) (l : List Value) (oa : Option Addr) (m c : Nat) : Option (Value × St) := match oa with
  | none => apNil sz σ n' l m
  | some a => thn (σ.get a.block) fun o => apOb sz σ n' l a m c o
def apRow (sz : Nat) (σ : St) (n : Nat) (l : List Value) (oa : Option Addr) (m c : Nat) : Option (Value × St) := match n with
  | 0 => some (.slice oa m c, σ)
  | n' + 1 => apOne sz σ n' l oa m c
def apGo (sz : Nat) (σ : St) (s x : Value) : Option (Value × St) := thn (addOf σ (sz + 1) x) fun nl => thn (toRow s) fun r => apRow sz σ nl.1 nl.2 r.1 r.2.1 r.2.2
def eAppend (P : Program) (σ : St) (sT xT : TypeId) (s x : Value) : Option (Value × St) := match apT P sT xT with
  | some sz => apGo sz σ s x
  | none => none
theorem eAppend_eq {sT xT : TypeId} {s x : Value} {r : Value × St} (h : eAppend P σ sT xT s x = some r) : eAppend0 P σ sT xT s x = some r := by
  unfold eAppend at h
  split at h
  · rename_i sz hT
    unfold apT at hT
    split at hT
    · rename_i e he hni
      split at hT
      · rename_i sz' by_ z hsz hby hz
        split at hT
        · rename_i hc
          cases hT
          unfold apGo at h
          obtain ⟨⟨n, l⟩, hadd, h1⟩ := thn_some h
          obtain ⟨⟨oa, m, c⟩, hrow, h2⟩ := thn_some h1
          have hrow := toRow_eq hrow
          simp only [] at hrow h2
          subst hrow
          unfold eAppend0
          rw [he, hni]
          simp only []
          rw [hsz, hby, hz]
          simp only []
          rw [hadd, hc]
          simp only []
          unfold apRow at h2
          cases n with
          | zero =>
            cases oa <;> exact h2
          | succ n' =>
            simp only [] at h2
            cases oa with
            | none =>
              simp only [apOne, apNil] at h2
              simp only []
              split at h2
              · rename_i hb
                obtain ⟨st, hs1, hs2⟩ := thn_some h2
                rw [hs1]
                exact hs2
              · cases h2
            | some a =>
              simp only [apOne] at h2
              obtain ⟨ob, hb, h3⟩ := thn_some h2
              simp only []
              rw [hb]
              unfold apOb at h3
              split at h3
              · exact h3
              · cases h3
        · cases hT
      · cases hT
    · cases hT
  · cases h
theorem eAppend_sound {sT xT ty : TypeId} {s x v : Value} {σ' : St} (h : eAppend P σ sT xT s x = some (v, σ')) (hr : Rel K w0 σ E w) (hs : ok σ.next E s) (hx : ok σ.next E x) :
    Leads K w0 σ E v σ' ((do pure (.value (← Builtin.append_ #[sT, xT] ty #[ren E s, ren E x])) : Sem Next).run P w) := eAppend0_sound (eAppend_eq h) hr hs hx
end
end Go.Ev
