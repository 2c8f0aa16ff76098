import Derived.Test.YtkldglhihfjclaaGreatDoorEvKa
import Derived.Lib.ConvBytes
namespace Go.Ev
noncomputable section
variable {P : Program} {K : Nat → Bool} {w0 w : World} {σ : St} {E : Env}

/-- What an operation leads to. -/
def Leads (K : Nat → Bool) (w0 : World) (σ : St) (E : Env) (v : Value) (σ' : St) (r : Result Next) : Prop :=
  ∃ E' w' x, r = .ok x w' ∧ (x = .value (ren E' v) ∨ (x = .skip ∧ v = undef)) ∧ Rel K w0 σ' E' w' ∧ Ext σ.next E E' ∧ ok σ'.next E' v ∧ σ.next ≤ σ'.next

theorem Leads.value {v : Value} {σ' : St} {E' : Env} {w' : World} (h : Rel K w0 σ' E' w') (he : Ext σ.next E E') (hv : ok σ'.next E' v) (hn : σ.next ≤ σ'.next) :
    Leads K w0 σ E v σ' (.ok (.value (ren E' v)) w') := ⟨E', w', _, rfl, Or.inl rfl, h, he, hv, hn⟩

def oneCells (l : List Value) : Bool := l.all (·.oneCell')
theorem oneCells_spec {l : List Value} (h : oneCells l = true) : ∀ v ∈ l, v.oneCell' = true := by simpa [oneCells] using h

/-! A new variable. -/
def aNew (σ : St) (cs : List Value) (esz : Nat) : Option St := match σ.room && oneCells cs with
  | true => some (σ.newIn cs esz σ.next 0)
  | false => none
theorem aNew_sound {cs : List Value} {esz : Nat} {σ' : St} (h : aNew σ cs esz = some σ') (hr : Rel K w0 σ E w) (hc : ∀ v ∈ cs, ok σ.next E v) (full : Array Value) (el : TypeId) (fz : Nat × Nat) (cap : Nat)
    (hfull : ∀ (j : Nat) (v : Value), (cs.map (ren E))[j]? = some v → full[j]? = some v) (hcap : max cs.length (cap * esz) ≤ full.size) (hfz : fz.1 = fz.2 ∨ full.size ≤ fz.1) :
    Rel K w0 σ' (upd E σ.next ⟨w.heap.size, 0, cap⟩) { w with heap := w.heap.push (.cells full el fz) } ∧ σ'.next = σ.next + 1 := by
  unfold aNew at h
  split at h
  · rename_i hb
    simp only [Bool.and_eq_true] at hb
    cases h
    exact ⟨hr.push hb.1 cs full el fz esz cap σ.next 0 (Nat.le_refl _) (fun v hv => ⟨hc v hv, oneCells_spec hb.2 v hv⟩) hfull hcap hfz, rfl⟩
  · cases h
theorem aNew_var {cs : List Value} {σ' : St} (h : aNew σ cs 1 = some σ') (hr : Rel K w0 σ E w) (hc : ∀ v ∈ cs, ok σ.next E v) (el : TypeId) (u : Value) (hu : u.cells.toList = cs.map (ren E)) :
    ∃ w', (newVar el u).run P w = .ok ⟨w.heap.size, 0, none⟩ w' ∧ Rel K w0 σ' (upd E σ.next ⟨w.heap.size, 0, 0⟩) w' ∧ σ'.next = σ.next + 1 := by
  have := aNew_sound h hr hc u.cells el (0, 0) 0 (by intro j v hj; rw [← hu] at hj; simpa using hj) (by
    have := congrArg List.length hu
    simp at this
    simp [this]) (Or.inl rfl)
  exact ⟨_, by simp [newVar, newRow], this.1, this.2⟩

def ptrTo (n : Nat) : Value := .pointer (some ⟨n, 0, none⟩)
theorem ren_ptrTo (n r c : Nat) : ren (upd E n ⟨r, 0, c⟩) (ptrTo n) = .pointer (some ⟨r, 0, none⟩) := by simp [ptrTo, ren, rPtr, upd_same]

def eAlloc (P : Program) (σ : St) (t : TypeId) : Option (Value × St) := match zeroT P t with
  | some z => match aNew σ z 1 with
    | some σ' => some (ptrTo σ.next, σ')
    | none => none
  | none => none
theorem eAlloc_sound {t : TypeId} {v : Value} {σ' : St} (h : eAlloc P σ t = some (v, σ')) (hr : Rel K w0 σ E w) :
    Leads K w0 σ E v σ' ((do pure (.value (← Instr.alloc t true (.tuple #[]))) : Sem Next).run P w) := by
  unfold eAlloc at h
  split at h
  · rename_i z hz
    split at h
    · rename_i s hs
      cases h
      obtain ⟨zv, h1, h2, h3⟩ := run_zero hz w
      obtain ⟨w', e1, e2, e3⟩ := aNew_var (P := P) hs hr (ok_of_plainL _ _ h3) t zv (by rw [map_plain E h3, h2])
      have : (do pure (.value (← Instr.alloc t true (.tuple #[]))) : Sem Next).run P w = .ok (.value (ren (upd E σ.next ⟨w.heap.size, 0, 0⟩) (ptrTo σ.next))) w' := by
        simp [Instr.alloc, h1, e1, ren_ptrTo]
      rw [this]
      exact Leads.value e2 (upd_ext E _ _) (by simp [ptrTo, ok, e3]) (by omega)
    · cases h
  · cases h

def eBox (σ : St) (x : Value) : Option (Value × St) := match aNew σ x.cells.toList 1 with
  | some σ' => some (ptrTo σ.next, σ')
  | none => none
theorem eBox_sound {t : TypeId} {x v : Value} {σ' : St} (h : eBox σ x = some (v, σ')) (hr : Rel K w0 σ E w) (hx : ok σ.next E x) :
    Leads K w0 σ E v σ' ((do pure (.value (← Instr.box t (ren E x))) : Sem Next).run P w) := by
  unfold eBox at h
  split at h
  · rename_i s hs
    cases h
    obtain ⟨w', e1, e2, e3⟩ := aNew_var (P := P) hs hr (ok_cells hx) t (ren E x) (ren_cells E x)
    have : (do pure (.value (← Instr.box t (ren E x))) : Sem Next).run P w = .ok (.value (ren (upd E σ.next ⟨w.heap.size, 0, 0⟩) (ptrTo σ.next))) w' := by
      simp [Instr.box, e1, ren_ptrTo]
    rw [this]
    exact Leads.value e2 (upd_ext E _ _) (by simp [ptrTo, ok, e3]) (by omega)
  · cases h

/-! A store. -/
def stCells (n : Nat) (σ : St) (a : Addr) (cs : List Value) (e g s : Nat) (vs : List Value) : Option (Value × St) :=
  match Nat.beq vs.length n && Nat.ble (a.off + vs.length) cs.length && oneCells vs with
  | true => some (undef, (σ.hit a.block (s + a.off) vs.length (σ.kin g)).put a.block (.cells (setAt cs a.off vs) e g s))
  | false => none
def stOb (n : Nat) (σ : St) (a : Addr) (vs : List Value) (o : Ob) : Option (Value × St) := match o with
  | .cells cs e g s => stCells n σ a cs e g s vs
  | _ => none
def stGo (n : Nat) (σ : St) (p x : Value) : Option (Value × St) := thn (toPtr p) fun a => thn (σ.get a.block) fun o => stOb n σ a x.cells.toList o
def eStore (P : Program) (σ : St) (t : TypeId) (p x : Value) : Option (Value × St) := match szT P t with
  | some n => stGo n σ p x
  | none => none
theorem eStore_sound {t : TypeId} {p x v : Value} {σ' : St} (h : eStore P σ t p x = some (v, σ')) (hr : Rel K w0 σ E w) (hx : ok σ.next E x) :
    Leads K w0 σ E v σ' ((do Instr.storeAt t (ren E p) (ren E x); pure .skip : Sem Next).run P w) := by
  unfold eStore at h
  split at h
  · rename_i n hn
    unfold stGo at h
    obtain ⟨a, ha, h1⟩ := thn_some h
    obtain ⟨ob, hb, h2⟩ := thn_some h1
    have ha := toPtr_eq ha
    subst ha
    unfold stOb at h2
    split at h2
    · rename_i cs e g s
      unfold stCells at h2
      split at h2
      · rename_i hc
        cases h2
        simp only [Bool.and_eq_true] at hc
        obtain ⟨⟨c1, c2⟩, c3⟩ := hc
        have c1 := Nat.eq_of_beq_eq_true c1
        have c2 := Nat.le_of_ble_eq_true c2
        have hst := hr.store hb a.off x.cells.toList c2 (fun v hv => ⟨ok_cells hx v hv, oneCells_spec c3 v hv⟩)
        have hth := hr.there _ _ _ _ _ hb
        have hlen : (ren E x).cells.toList.length = x.cells.toList.length := by rw [ren_cells]; simp
        have hrun := run_storeCells_cells (P := P) (E a.block).blk ((E a.block).off + a.off) (ren E x).cells.toList 0 w
          (fun j hj => by have := (hth (a.off + j) (by rw [hlen] at hj; omega)).1; rw [← Nat.add_assoc] at this; simpa using this)
          (fun j hj => by have := (hth (a.off + j) (by rw [hlen] at hj; omega)).2; rw [← Nat.add_assoc] at this; simpa using this)
          (fun v hv => by rw [ren_cells] at hv; obtain ⟨u, hu, rfl⟩ := List.mem_map.mp hv; rw [ren_oneCell]; exact oneCells_spec c3 u hu)
        have : (do Instr.storeAt t (ren E (.pointer (some a))) (ren E x); pure .skip : Sem Next).run P w =
            .ok .skip (w.setCells (E a.block).blk ((E a.block).off + a.off) (x.cells.toList.map (ren E))) := by
          have hsz : (ren E x).cells.size = n := by rw [← Array.length_toList, hlen, c1]
          rw [← ren_cells]
          simp only [Nat.add_zero] at hrun
          simp [Instr.storeAt, Instr.sureAddr, ren, rPtr, storeVar, Sem.run_bind, run_sizeOf hn, hsz, hrun]
        rw [this]
        refine ⟨E, _, _, rfl, Or.inr ⟨rfl, rfl⟩, hst, Ext.refl _ _, by simp [undef, ok, okA, okL], ?_⟩
        exact Nat.le_of_eq (hit_next _ _ _ _ σ).symm
      · cases h2
    · cases h2
  · cases h

/-! New rows. -/
def zrow (z : List Value) (n : Nat) : List Value := (List.range n).map fun i => (z[i % z.length]?).getD default
theorem zrow_eq (z : List Value) (n : Nat) : (Array.range n).map (fun i => z.toArray[i % z.toArray.size]!) = (zrow z n).toArray := by
  apply Array.ext'
  simp [zrow, Array.toList_range]
theorem zrow_plain {z : List Value} (h : plainL z = true) (n : Nat) : plainL (zrow z n) = true := by
  rw [plainL_all] at *
  simp only [zrow, List.all_eq_true, List.mem_map] at *
  rintro _ ⟨i, _, rfl⟩
  cases hz : z[i % z.length]? with
  | none => rfl
  | some v => exact h v (List.mem_of_getElem? hz)
def rowOf (n len : Nat) : Value := .slice (some ⟨n, 0, none⟩) len 0
theorem ren_rowOf (n r len cap : Nat) : ren (upd E n ⟨r, 0, cap⟩) (rowOf n len) = .slice (some ⟨r, 0, none⟩) len cap := by
  simp [rowOf, ren, rRow, upd_same]

def sliceT (P : Program) (t : TypeId) : Option TypeId := match P.underlying t with
  | some (.slice e) => some e
  | _ => none
theorem sliceT_spec {t e : TypeId} (h : sliceT P t = some e) : P.underlying t = some (.slice e) := by
  unfold sliceT at h
  split at h
  · rename_i hu; cases h; exact hu
  · cases h

def eBuildSlice (P : Program) (σ : St) (t : TypeId) (len : Nat) (parts : List (Nat × Value)) : Option (Value × St) :=
  match sliceT P t with
  | some e => match szT P e, zeroT P e with
    | some sz, some z => match Nat.ble (len * sz) 16777216, fillL (fun i => some (i * sz, sz)) (zrow z (len * sz)) parts with
      | true, some r => match aNew σ r sz with
        | some σ' => some (rowOf σ.next len, σ')
        | none => none
      | _, _ => none
    | _, _ => none
  | none => none
theorem eBuildSlice_sound {t : TypeId} {len : Nat} {parts : List (Nat × Value)} {v : Value} {σ' : St} (h : eBuildSlice P σ t len parts = some (v, σ')) (hr : Rel K w0 σ E w) (hp : ∀ x ∈ parts, ok σ.next E x.2) :
    Leads K w0 σ E v σ' ((do pure (.value (← Instr.buildSlice t len (parts.map fun x => (x.1, ren E x.2)).toArray)) : Sem Next).run P w) := by
  unfold eBuildSlice at h
  split at h
  · rename_i e he
    have hu := sliceT_spec he
    split at h
    · rename_i sz z hsz hz
      split at h
      · rename_i r hle hr'
        split at h
        · rename_i s hs
          cases h
          obtain ⟨zv, h1, h2, h3⟩ := run_zero hz w
          have hpl := zrow_plain h3 (len * sz)
          have hf := fill_sound (N := σ.next) (E := E) _ _ _ _ hr'
          rw [map_plain E hpl] at hf
          have hlen : r.length = len * sz := by rw [hf.2.1]; simp [zrow]
          have hN := aNew_sound hs hr (hf.2.2 (ok_of_plainL _ _ hpl) hp) (r.map (ren E)).toArray e (0, 0) len (by intro j v hj; simpa using hj) (by simp [hlen]) (Or.inl rfl)
          have hle' : ¬ (len * sz > 2 ^ 24) := by have := Nat.le_of_ble_eq_true hle; omega
          have hrun : (Instr.buildSlice t len (parts.map fun x => (x.1, ren E x.2)).toArray).run P w =
              .ok (.slice (some ⟨w.heap.size, 0, none⟩) len len) { w with heap := w.heap.push (.cells (r.map (ren E)).toArray e (0, 0)) } := by
            unfold Instr.buildSlice
            simp only [Sem.run_bind, run_underlying hu, Result.andThen_ok, run_sizeOf hsz, if_neg hle']
            by_cases h0 : len * sz = 0
            · simp only [h0, if_true, Sem.run_bind, Sem.run_pure, Result.andThen_ok]
              have e0 : (Array.map (fun x => (#[] : Array Value)[x % (#[] : Array Value).size]!) (Array.range 0)) = (zrow z (len * sz)).toArray := by simp [zrow, h0]
              rw [e0, hf.1]
              simp [newRow]
            · simp only [h0, if_false, Sem.run_bind, h1, Result.andThen_ok, Sem.run_pure, h2]
              rw [zrow_eq, hf.1]
              simp [newRow]
          rw [Sem.run_bind, hrun]
          simp only [Result.andThen_ok, Sem.run_pure]
          rw [← ren_rowOf (E := E) σ.next w.heap.size len len]
          exact Leads.value hN.1 (upd_ext E _ _) (by simp only [rowOf, ok, upd_same, hN.2]; omega) (by omega)
        · cases h
      · cases h
    · cases h
  · cases h

def eMakeMap (σ : St) : Option (Value × St) := match σ.room with
  | true => some (.map (some σ.next), σ.newOb (.map [] [] [] 0))
  | false => none
end
end Go.Ev
