import Derived.Orders
import Derived.LoopN
import Derived.Deep.MidRow
import Derived.Scope
namespace Go.Ev

/-- Where a block of the short memory lies: the real block, the offset there, how many elements there is room for from there on. -/
structure Slot where
  blk : Nat
  off : Nat
  cap : Nat
deriving Inhabited
abbrev Env := Nat → Slot

def rPtr (E : Env) (a : Addr) : Addr := ⟨(E a.block).blk, (E a.block).off + a.off, none⟩
def rRow (E : Env) (a : Addr) (c : Nat) : Addr :=
  ⟨(E a.block).blk, (E a.block).off + (if (E a.block).cap - c = 0 then a.spot.getD a.off else a.off), none⟩

mutual
def ren (E : Env) : Value → Value
  | .pointer (some a) => .pointer (some (rPtr E a))
  | .slice (some a) n c => .slice (some (rRow E a c)) n ((E a.block).cap - c)
  | .map (some r) => .map (some (E r).blk)
  | .func fn f c => .func fn (renA E f) (renA E c)
  | .iface t v => .iface t (ren E v)
  | .agg cs => .agg (renA E cs)
  | .tuple cs => .tuple (renA E cs)
  | v => v
def renA (E : Env) : Array Value → Array Value
  | ⟨l⟩ => ⟨renL E l⟩
def renL (E : Env) : List Value → List Value
  | [] => []
  | v :: l => ren E v :: renL E l
end

theorem renL_map (E : Env) : ∀ l, renL E l = l.map (ren E)
  | [] => rfl
  | v :: l => by simp [renL, renL_map E l]
theorem renA_map (E : Env) (a : Array Value) : renA E a = a.map (ren E) := by
  obtain ⟨l⟩ := a
  simp [renA, renL_map]

mutual
def ok (N : Nat) (E : Env) : Value → Prop
  | .pointer (some a) => a.block < N
  | .slice (some a) n c => a.block < N ∧ n + c ≤ (E a.block).cap
  | .slice none n c => n = 0 ∧ c = 0
  | .map (some r) => r < N
  | .chan _ => False
  | .func _ f c => okA N E f ∧ okA N E c
  | .iface _ v => ok N E v
  | .agg cs => okA N E cs
  | .tuple cs => okA N E cs
  | _ => True
def okA (N : Nat) (E : Env) : Array Value → Prop
  | ⟨l⟩ => okL N E l
def okL (N : Nat) (E : Env) : List Value → Prop
  | [] => True
  | v :: l => ok N E v ∧ okL N E l
end

theorem okL_iff (N : Nat) (E : Env) : ∀ l, okL N E l ↔ ∀ v ∈ l, ok N E v
  | [] => by simp [okL]
  | v :: l => by simp [okL, okL_iff N E l]
theorem okA_iff (N : Nat) (E : Env) (a : Array Value) : okA N E a ↔ ∀ v ∈ a.toList, ok N E v := by
  obtain ⟨l⟩ := a
  simp [okA, okL_iff]

/-- The later places agree with the earlier ones. -/
def Ext (N : Nat) (E E' : Env) : Prop := ∀ b, b < N → E' b = E b
theorem Ext.refl (N : Nat) (E : Env) : Ext N E E := fun _ _ => rfl
theorem Ext.trans {N N' : Nat} {E E' E'' : Env} (hn : N ≤ N') (h : Ext N E E') (h' : Ext N' E' E'') : Ext N E E'' :=
  fun b hb => (h' b (Nat.lt_of_lt_of_le hb hn)).trans (h b hb)

mutual
theorem ren_ext {N : Nat} {E E' : Env} (h : Ext N E E') : ∀ v, ok N E v → ren E' v = ren E v
  | .pointer (some a), hv => by simp only [ok] at hv; simp only [ren, rPtr, h _ hv]
  | .pointer none, _ => rfl
  | .slice (some a) n c, hv => by simp only [ok] at hv; simp only [ren, rRow, h _ hv.1]
  | .slice none n c, _ => rfl
  | .map (some r), hv => by simp only [ok] at hv; simp only [ren, h _ hv]
  | .map none, _ => rfl
  | .func fn f c, hv => by simp only [ok] at hv; simp only [ren, renA_ext h f hv.1, renA_ext h c hv.2]
  | .iface t v, hv => by simp only [ok] at hv; simp only [ren, ren_ext h v hv]
  | .agg cs, hv => by simp only [ok] at hv; simp only [ren, renA_ext h cs hv]
  | .tuple cs, hv => by simp only [ok] at hv; simp only [ren, renA_ext h cs hv]
  | .bool _, _ => rfl
  | .int _ _, _ => rfl
  | .float _ _, _ => rfl
  | .complex _ _ _, _ => rfl
  | .string _, _ => rfl
  | .chan _, _ => rfl
  | .nilFunc, _ => rfl
  | .nilIface, _ => rfl
theorem renA_ext {N : Nat} {E E' : Env} (h : Ext N E E') : ∀ a, okA N E a → renA E' a = renA E a
  | ⟨l⟩, ha => by simp only [okA] at ha; simp only [renA, renL_ext h l ha]
theorem renL_ext {N : Nat} {E E' : Env} (h : Ext N E E') : ∀ l, okL N E l → renL E' l = renL E l
  | [], _ => rfl
  | v :: l, hl => by simp only [okL] at hl; simp only [renL, ren_ext h v hl.1, renL_ext h l hl.2]
end

mutual
theorem ok_ext {N N' : Nat} {E E' : Env} (hn : N ≤ N') (h : Ext N E E') : ∀ v, ok N E v → ok N' E' v
  | .pointer (some a), hv => by simp only [ok] at hv ⊢; omega
  | .pointer none, _ => by simp [ok]
  | .slice (some a) n c, hv => by simp only [ok] at hv ⊢; rw [h _ hv.1]; exact ⟨by omega, hv.2⟩
  | .slice none n c, hv => by simpa only [ok] using hv
  | .map (some r), hv => by simp only [ok] at hv ⊢; omega
  | .map none, _ => by simp [ok]
  | .func fn f c, hv => by simp only [ok] at hv ⊢; exact ⟨okA_ext hn h f hv.1, okA_ext hn h c hv.2⟩
  | .iface t v, hv => by simp only [ok] at hv ⊢; exact ok_ext hn h v hv
  | .agg cs, hv => by simp only [ok] at hv ⊢; exact okA_ext hn h cs hv
  | .tuple cs, hv => by simp only [ok] at hv ⊢; exact okA_ext hn h cs hv
  | .bool _, _ => by simp [ok]
  | .int _ _, _ => by simp [ok]
  | .float _ _, _ => by simp [ok]
  | .complex _ _ _, _ => by simp [ok]
  | .string _, _ => by simp [ok]
  | .chan _, hv => by simp [ok] at hv
  | .nilFunc, _ => by simp [ok]
  | .nilIface, _ => by simp [ok]
theorem okA_ext {N N' : Nat} {E E' : Env} (hn : N ≤ N') (h : Ext N E E') : ∀ a, okA N E a → okA N' E' a
  | ⟨l⟩, ha => by simp only [okA] at ha ⊢; exact okL_ext hn h l ha
theorem okL_ext {N N' : Nat} {E E' : Env} (hn : N ≤ N') (h : Ext N E E') : ∀ l, okL N E l → okL N' E' l
  | [], _ => by simp [okL]
  | v :: l, hl => by simp only [okL] at hl ⊢; exact ⟨ok_ext hn h v hl.1, okL_ext hn h l hl.2⟩
end

theorem map_ren_ext {N : Nat} {E E' : Env} (h : Ext N E E') {l : List Value} (hl : ∀ v ∈ l, ok N E v) : l.map (ren E') = l.map (ren E) :=
  List.map_congr_left fun v hv => ren_ext h v (hl v hv)

-- A value without a place.
mutual
def plain : Value → Bool
  | .pointer (some _) | .slice (some _) _ _ | .map (some _) | .chan _ => false
  | .slice none n c => n == 0 && c == 0
  | .func _ f c => plainA f && plainA c
  | .iface _ v => plain v
  | .agg cs => plainA cs
  | .tuple cs => plainA cs
  | _ => true
def plainA : Array Value → Bool
  | ⟨l⟩ => plainL l
def plainL : List Value → Bool
  | [] => true
  | v :: l => plain v && plainL l
end
theorem plainL_all : ∀ l, plainL l = l.all plain
  | [] => rfl
  | v :: l => by simp [plainL, plainL_all l]

mutual
theorem ren_plain (E : Env) : ∀ v, plain v = true → ren E v = v
  | .pointer (some a), hv => by simp [plain] at hv
  | .pointer none, _ => rfl
  | .slice (some a) n c, hv => by simp [plain] at hv
  | .slice none n c, _ => rfl
  | .map (some r), hv => by simp [plain] at hv
  | .map none, _ => rfl
  | .func fn f c, hv => by simp only [plain, Bool.and_eq_true] at hv; simp only [ren, renA_plain E f hv.1, renA_plain E c hv.2]
  | .iface t v, hv => by simp only [plain] at hv; simp only [ren, ren_plain E v hv]
  | .agg cs, hv => by simp only [plain] at hv; simp only [ren, renA_plain E cs hv]
  | .tuple cs, hv => by simp only [plain] at hv; simp only [ren, renA_plain E cs hv]
  | .bool _, _ => rfl
  | .int _ _, _ => rfl
  | .float _ _, _ => rfl
  | .complex _ _ _, _ => rfl
  | .string _, _ => rfl
  | .chan _, hv => by simp [plain] at hv
  | .nilFunc, _ => rfl
  | .nilIface, _ => rfl
theorem renA_plain (E : Env) : ∀ a, plainA a = true → renA E a = a
  | ⟨l⟩, ha => by simp only [plainA] at ha; simp only [renA, renL_plain E l ha]
theorem renL_plain (E : Env) : ∀ l, plainL l = true → renL E l = l
  | [], _ => rfl
  | v :: l, hl => by simp only [plainL, Bool.and_eq_true] at hl; simp only [renL, ren_plain E v hl.1, renL_plain E l hl.2]
end
mutual
theorem ok_plain (N : Nat) (E : Env) : ∀ v, plain v = true → ok N E v
  | .pointer (some a), hv => by simp [plain] at hv
  | .pointer none, _ => by simp [ok]
  | .slice (some a) n c, hv => by simp [plain] at hv
  | .slice none n c, hv => by simpa [plain, ok] using hv
  | .map (some r), hv => by simp [plain] at hv
  | .map none, _ => by simp [ok]
  | .func fn f c, hv => by simp only [plain, Bool.and_eq_true] at hv; simp only [ok]; exact ⟨okA_plain N E f hv.1, okA_plain N E c hv.2⟩
  | .iface t v, hv => by simp only [plain] at hv; simp only [ok]; exact ok_plain N E v hv
  | .agg cs, hv => by simp only [plain] at hv; simp only [ok]; exact okA_plain N E cs hv
  | .tuple cs, hv => by simp only [plain] at hv; simp only [ok]; exact okA_plain N E cs hv
  | .bool _, _ => by simp [ok]
  | .int _ _, _ => by simp [ok]
  | .float _ _, _ => by simp [ok]
  | .complex _ _ _, _ => by simp [ok]
  | .string _, _ => by simp [ok]
  | .chan _, hv => by simp [plain] at hv
  | .nilFunc, _ => by simp [ok]
  | .nilIface, _ => by simp [ok]
theorem okA_plain (N : Nat) (E : Env) : ∀ a, plainA a = true → okA N E a
  | ⟨l⟩, ha => by simp only [plainA] at ha; simp only [okA]; exact okL_plain N E l ha
theorem okL_plain (N : Nat) (E : Env) : ∀ l, plainL l = true → okL N E l
  | [], _ => by simp [okL]
  | v :: l, hl => by simp only [plainL, Bool.and_eq_true] at hl; simp only [okL]; exact ⟨ok_plain N E v hl.1, okL_plain N E l hl.2⟩
end
theorem map_plain (E : Env) {l : List Value} (h : plainL l = true) : l.map (ren E) = l := by rw [← renL_map, renL_plain E l h]
theorem ok_of_plainL (N : Nat) (E : Env) {l : List Value} (h : plainL l = true) : ∀ v ∈ l, ok N E v := (okL_iff N E l).1 (okL_plain N E l h)

theorem ren_oneCell (E : Env) (v : Value) : (ren E v).oneCell' = v.oneCell' := by
  cases v with
  | pointer a => cases a <;> rfl
  | slice a => cases a <;> rfl
  | map a => cases a <;> rfl
  | _ => rfl
theorem ren_cells (E : Env) (v : Value) : (ren E v).cells.toList = v.cells.toList.map (ren E) := by
  cases v with
  | pointer a => cases a <;> rfl
  | slice a => cases a <;> rfl
  | map a => cases a <;> rfl
  | agg cs => simp [ren, Value.cells, renA_map]
  | _ => rfl
theorem ok_cells {N : Nat} {E : Env} {v : Value} (h : ok N E v) : ∀ x ∈ v.cells.toList, ok N E x := by
  cases v with
  | agg cs => simp only [ok, okA_iff] at h; exact h
  | _ => simpa [Value.cells] using h
theorem ren_bool {E : Env} {v : Value} {b : Bool} : ren E v = .bool b ↔ v = .bool b := by
  cases v with
  | pointer a => cases a <;> simp [ren]
  | slice a => cases a <;> simp [ren]
  | map a => cases a <;> simp [ren]
  | _ => simp [ren]
end Go.Ev
