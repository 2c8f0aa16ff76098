import Derived.Test.YtkldglhihfjclaaGreatDoorEvZb
import Derived.LoopN
namespace Go.Ev
noncomputable section
variable {P : Program} {K : Nat → Bool} {w0 w : World} {σ : St} {E : Env}

inductive Ex where
  | normal
  | exit (id : Nat)
  | ret
def Ex.to : Ex → Exit
  | .normal => .normal
  | .exit id => .exit id
  | .ret => .ret
abbrev Res := Option (Ex × List Value × St)

def iter : Nat → (List Value → St → Res) → List Value → St → Res
  | 0, _, _, _ => none
  | n + 1, f, tm, σ => match f tm σ with
    | some (.normal, tm', σ') => iter n f tm' σ'
    | r => r

structure CF where
  run : List Value → St → Res
def cCode (P : Program) (call : CallT) (L : Nat) : Code → CF
  | .skip => ⟨fun tm σ => some (.normal, tm, σ)⟩
  | .label _ => ⟨fun tm σ => some (.normal, tm, σ)⟩
  | .seq a b => ⟨fun tm σ => match (cCode P call L a).run tm σ with
    | some (.normal, tm', σ') => (cCode P call L b).run tm' σ'
    | r => r⟩
  | .cond c x y => ⟨fun tm σ => match (cO c).g tm with
    | some (.bool true) => (cCode P call L x).run tm σ
    | some (.bool false) => (cCode P call L y).run tm σ
    | _ => none⟩
  | .block id b => ⟨fun tm σ => match (cCode P call L b).run tm σ with
    | some (.exit j, tm', σ') => match Nat.beq j id with
      | true => some (.normal, tm', σ')
      | false => some (.exit j, tm', σ')
    | r => r⟩
  | .loop b => ⟨fun tm σ => iter L (cCode P call L b).run tm σ⟩
  | .exit id => ⟨fun tm σ => some (.exit id, tm, σ)⟩
  | .ret => ⟨fun tm σ => some (.ret, tm, σ)⟩
  | .scope b => cCode P call L b
  | .region _ ops false => ⟨fun tm σ => match (cSeq P call ops ops.toList).run tm σ with
    | some (tm', σ') => some (.normal, tm', σ')
    | none => none⟩
  | .region _ ops true => match planD P ops with
    | some l => ⟨fun tm σ => match execX P call ops [] [] l tm σ with
      | some (tm', σ', _, _) => some (.normal, tm', σ')
      | none => none⟩
    | none => ⟨fun _ _ => none⟩
  | _ => ⟨fun _ _ => none⟩
def evCode (P : Program) (call : CallT) (L : Nat) (c : Code) (tm : List Value) (σ : St) : Res := (cCode P call L c).run tm σ

/-- What a part of the code must lead to. -/
def CodeOk (P : Program) (G : Nat → Option Obj) (c : Code) (f : List Value → St → Res) : Prop :=
  ∀ (K : Nat → Bool) (w0 : World), Held G K w0 → ∀ tm σ ex tm' σ', f tm σ = some (ex, tm', σ') → ∀ E w Q, Rel K w0 σ E w → Good σ.next E tm → NoPanic Q →
    (Then K w0 σ E tm' σ' fun _ => Q ex.to) → c.wp P Q (act E tm) w

theorem iter_sound {G : Nat → Option Obj} {c : Code} {f : List Value → St → Res} (hf : CodeOk P G c f) : ∀ (n : Nat) (tm : List Value) (σ : St) (ex : Ex) (tm' : List Value) (σ' : St), iter n f tm σ = some (ex, tm', σ') → ∀ (K : Nat → Bool) (w0 : World), Held G K w0 → ∀ (E : Env) (w : World) (Q : Exit → Act → World → Prop),
    Rel K w0 σ E w → Good σ.next E tm → NoPanic Q → (Then K w0 σ E tm' σ' fun _ => Q ex.to) → Code.rounds P c Q n (act E tm) w
  | 0, tm, σ, ex, tm', σ', h => by cases h
  | n + 1, tm, σ, ex, tm', σ', h => by
    intro K w0 hK E w Q hr ht hQ hn
    rw [rounds_succ]
    simp only [iter] at h
    split at h
    · rename_i tm1 σ1 h1
      refine hf K w0 hK tm σ .normal tm1 σ1 h1 E w _ hr ht (fun c a w => hQ c a w) fun E1 w1 e1 e2 e3 e4 => ?_
      exact iter_sound hf n tm1 σ1 ex tm' σ' h K w0 hK E1 w1 Q e1 e3 hQ fun E' w' f1 f2 f3 f4 => hn E' w' f1 (e2.trans e4 f2) f3 (Nat.le_trans e4 f4)
    · rename_i r hne
      refine hf K w0 hK tm σ ex tm' σ' h E w _ hr ht (fun c a w => hQ c a w) fun E1 w1 e1 e2 e3 e4 => ?_
      have := hn E1 w1 e1 e2 e3 e4
      cases ex with
      | normal => exact absurd h (hne _ _)
      | exit id => exact this
      | ret => exact this

theorem evCode_sound {G : Nat → Option Obj} {call : CallT} (hc : CallOk P G call) (hm : P.follows .mixedOrders = true) (L : Nat) : ∀ c : Code, CodeOk P G c (evCode P call L c) := by
  intro c
  induction c with
  | skip => intro K w0 hK tm σ ex tm' σ' h E w Q hr ht hQ hn; cases h; exact wp_skip (hn E w hr (Ext.refl _ _) ht (Nat.le_refl _))
  | label l => intro K w0 hK tm σ ex tm' σ' h E w Q hr ht hQ hn; cases h; exact wp_label (hn E w hr (Ext.refl _ _) ht (Nat.le_refl _))
  | exit id => intro K w0 hK tm σ ex tm' σ' h E w Q hr ht hQ hn; cases h; exact wp_exit (hn E w hr (Ext.refl _ _) ht (Nat.le_refl _))
  | ret => intro K w0 hK tm σ ex tm' σ' h E w Q hr ht hQ hn; cases h; exact wp_ret (hn E w hr (Ext.refl _ _) ht (Nat.le_refl _))
  | seq a b iha ihb =>
    intro K w0 hK tm σ ex tm' σ' h E w Q hr ht hQ hn
    simp only [evCode, cCode] at h
    split at h
    · rename_i tm1 σ1 h1
      refine wp_seq (iha K w0 hK tm σ .normal tm1 σ1 h1 E w _ hr ht (fun c a w => hQ c a w) fun E1 w1 e1 e2 e3 e4 => ?_)
      exact ihb K w0 hK tm1 σ1 ex tm' σ' h E1 w1 Q e1 e3 hQ fun E' w' f1 f2 f3 f4 => hn E' w' f1 (e2.trans e4 f2) f3 (Nat.le_trans e4 f4)
    · rename_i r hne
      refine wp_seq (iha K w0 hK tm σ ex tm' σ' h E w _ hr ht (fun c a w => hQ c a w) fun E1 w1 e1 e2 e3 e4 => ?_)
      have := hn E1 w1 e1 e2 e3 e4
      cases ex with
      | normal => exact absurd h (hne _ _)
      | exit id => exact this
      | ret => exact this
  | cond x a b iha ihb =>
    intro K w0 hK tm σ ex tm' σ' h E w Q hr ht hQ hn
    simp only [evCode, cCode] at h
    split at h
    · rename_i hx; rw [cO_eq] at hx; exact wp_cond_true (eval_sound ht hx).1 (iha K w0 hK tm σ ex tm' σ' h E w Q hr ht hQ hn)
    · rename_i hx; rw [cO_eq] at hx; exact wp_cond_false (eval_sound ht hx).1 (ihb K w0 hK tm σ ex tm' σ' h E w Q hr ht hQ hn)
    · cases h
  | block id b ih =>
    intro K w0 hK tm σ ex tm' σ' h E w Q hr ht hQ hn
    simp only [evCode, cCode] at h
    split at h
    · rename_i j tm1 σ1 h1
      split at h
      · rename_i hj
        cases h
        refine wp_block (ih K w0 hK tm σ (.exit j) tm' σ' h1 E w _ hr ht (fun c a w => hQ c a w) fun E1 w1 e1 e2 e3 e4 => ?_)
        show (if j = id then _ else _)
        rw [if_pos (Nat.eq_of_beq_eq_true hj)]
        exact hn E1 w1 e1 e2 e3 e4
      · rename_i hj
        cases h
        refine wp_block (ih K w0 hK tm σ (.exit j) tm' σ' h1 E w _ hr ht (fun c a w => hQ c a w) fun E1 w1 e1 e2 e3 e4 => ?_)
        show (if j = id then _ else _)
        rw [if_neg (fun e => by rw [e] at hj; simp at hj)]
        exact hn E1 w1 e1 e2 e3 e4
    · rename_i r hne
      refine wp_block (ih K w0 hK tm σ ex tm' σ' h E w _ hr ht (fun c a w => hQ c a w) fun E1 w1 e1 e2 e3 e4 => ?_)
      have := hn E1 w1 e1 e2 e3 e4
      cases ex with
      | normal => exact this
      | exit id => exact absurd h (hne _ _ _)
      | ret => exact this
  | loop b ih =>
    intro K w0 hK tm σ ex tm' σ' h E w Q hr ht hQ hn
    simp only [evCode, cCode] at h
    exact wp_loop_rounds L (iter_sound ih L tm σ ex tm' σ' h K w0 hK E w Q hr ht hQ hn)
  | scope b ih =>
    intro K w0 hK tm σ ex tm' σ' h E w Q hr ht hQ hn
    simp only [evCode, cCode] at h
    refine wp_scope_straight (ih K w0 hK tm σ ex tm' σ' h E w _ hr ht (fun c a w => hQ c a w) fun E1 w1 e1 e2 e3 e4 => ?_)
    have := hn E1 w1 e1 e2 e3 e4
    cases ex <;> exact this
  | region id ops d =>
    intro K w0 hK tm σ ex tm' σ' h E w Q hr ht hQ hn
    cases d with
    | false =>
      simp only [evCode, cCode] at h
      split at h
      · rename_i tm1 σ1 h1
        cases h
        exact region_sound hc hK h1 hr ht hn
      · cases h
    | true =>
      simp only [evCode, cCode] at h
      split at h
      · rename_i l hl
        simp only [] at h
        split at h
        · rename_i tm1 σ1 ss gi h1
          cases h
          exact drawn_soundX hc hK hm hQ hl h1 hr ht hn
        · cases h
      · cases h
  | rangeFunc f ps as b _ _ => intro K w0 hK tm σ ex tm' σ' h; cases h
  | goto l => intro K w0 hK tm σ ex tm' σ' h; cases h
  | refuse s => intro K w0 hK tm σ ex tm' σ' h; cases h

/-! The results. -/
def evRes1 (P : Program) (σ : St) (tm : List Value) : List ResultVar → Option (List Value)
  | [] => some []
  | .tmp t :: l => match tm[t]?, evRes1 P σ tm l with
    | some v, some r => some (v :: r)
    | _, _ => none
  | .cell a t :: l => match tm[a]? with
    | some p => match aLoad P σ t p, evRes1 P σ tm l with
      | some v, some r => some (v :: r)
      | _, _ => none
    | none => none
def packV : List Value → Value
  | [v] => v
  | l => .tuple l.toArray
def resOf (tmps : Array Value) (x : ResultVar) : Sem Value := match x with
  | .tmp t => pure (tmps.getD t undef)
  | .cell a t => do loadVar t (← asAddr (tmps.getD a undef))
theorem results_eq (fn : Func) (tmps : Array Value) : results fn tmps = (do
    let vs ← fn.results.mapM (resOf tmps)
    pure (if h : vs.size = 1 then vs[0] else .tuple vs)) := rfl
theorem evRes1_sound {tm : List Value} (hr : Rel K w0 σ E w) (ht : Good σ.next E tm) : ∀ {l : List ResultVar} {r : List Value}, evRes1 P σ tm l = some r →
    (l.mapM (resOf (act E tm).tmps)).run P w = .ok (r.map (ren E)) w ∧ ∀ v ∈ r, ok σ.next E v
  | [], r, h => by cases h; exact ⟨rfl, by simp⟩
  | .tmp t :: l, r, h => by
    simp only [evRes1] at h
    split at h
    · rename_i v r' hv hr'
      cases h
      have ih := evRes1_sound hr ht hr'
      have e : (resOf (act E tm).tmps (.tmp t)).run P w = .ok (ren E v) w := by simp [resOf, act, hv]
      refine ⟨?_, fun x hx => (List.mem_cons.mp hx).elim (fun e => e ▸ ht v (List.mem_of_getElem? hv)) (ih.2 x)⟩
      simp only [List.mapM_cons, Sem.run_bind, e, Sem.run_pure, Result.andThen_ok, ih.1, List.map_cons]
    · cases h
  | .cell a t :: l, r, h => by
    simp only [evRes1] at h
    split at h
    · rename_i p hp
      split at h
      · rename_i v r' hv hr'
        cases h
        have ih := evRes1_sound hr ht hr'
        have e : (act E tm).tmps.getD a undef = ren E p := by simp [act, hp]
        have h1 := aLoad_sound hv hr
        refine ⟨?_, fun x hx => (List.mem_cons.mp hx).elim (fun e => e ▸ h1.2) (ih.2 x)⟩
        have h2 := h1.1
        have h3 : ∃ ad, ren E p = .pointer (some ad) := by
          unfold aLoad at hv
          split at hv
          · exact ⟨_, rfl⟩
          · cases hv
        obtain ⟨ad, had⟩ := h3
        rw [had] at h2
        simp only [Instr.loadAt, Instr.sureAddr, Sem.run_bind, Sem.run_pure, Result.andThen_ok] at h2
        have e2 : (resOf (act E tm).tmps (.cell a t)).run P w = .ok (ren E v) w := by
          unfold resOf
          simp only [e, had, asAddr, Sem.run_bind, Sem.run_pure, Result.andThen_ok, h2]
        simp only [List.mapM_cons, Sem.run_bind, e2, Sem.run_pure, Result.andThen_ok, ih.1, List.map_cons]
      · cases h
    · cases h
theorem results_sound {tm : List Value} {fn : Func} {r : List Value} (hr : Rel K w0 σ E w) (ht : Good σ.next E tm) (h : evRes1 P σ tm fn.results.toList = some r) :
    (results fn (act E tm).tmps).run P w = .ok (ren E (packV r)) w ∧ ok σ.next E (packV r) := by
  have h1 := evRes1_sound hr ht h
  constructor
  · rw [results_eq, Sem.run_bind, Array.mapM_eq_mapM_toList, Sem.run_map, h1.1]
    simp only [Result.andThen_ok, Sem.run_pure]
    congr 1
    match r with
    | [] => simp [packV, ren, renA, renL]
    | [v] => simp [packV]
    | v :: u :: l => simp [packV, ren, renA, renL, renL_map]
  · match r, h1.2 with
    | [], _ => simp [packV, ok, okA, okL]
    | [v], h => exact h v (by simp)
    | v :: u :: l, h => simp only [packV, ok, okA]; exact (okL_iff _ _ _).mpr h

def evCall (P : Program) (X : CallT) (L : Nat) : Nat → CallT
  | 0 => fun _ _ _ => none
  | n + 1 => fun f args σ => match X f args σ with
    | some r => some r
    | none => match P.funcs[f]? with
      | some fn => match fn.body with
        | some c => match evCode P (evCall P X L n) L c (args ++ List.replicate (fn.ntmps - args.length) undef) σ with
          | some (.exit _, _, _) => none
          | some (_, tm, σ') => match evRes1 P σ' tm fn.results.toList with
            | some r => some (packV r, σ')
            | none => none
          | none => none
        | none => none
      | none => none

theorem evCall_sound {G : Nat → Option Obj} {X : CallT} (hX : CallOk P G X) (hm : P.follows .mixedOrders = true) (L : Nat) : ∀ n, CallOk P G (evCall P X L n)
  | 0 => by intro f args σ v σ' h; cases h
  | n + 1 => by
    intro f args σ v σ' h K w0 hK E w hr ha
    simp only [evCall] at h
    split at h
    · rename_i r hx
      cases h
      exact hX f args σ v σ' hx K w0 hK E w hr ha
    · split at h
      · rename_i fn hfn
        split at h
        · rename_i c hb
          have hg : Good σ.next E (args ++ List.replicate (fn.ntmps - args.length) undef) := by
            intro x hx
            rcases List.mem_append.mp hx with hx | hx
            · exact ha x hx
            · rw [(List.mem_replicate.mp hx).2]; exact ok_undef
          have hact : act E (args ++ List.replicate (fn.ntmps - args.length) undef) = { tmps := (args.map (ren E)).toArray ++ Array.replicate (fn.ntmps - (args.map (ren E)).toArray.size) undef, defers := [] } := by
            simp only [act, List.map_append, List.map_replicate, ren_undef, List.size_toArray, List.length_map]
            congr 1
            apply Array.ext'
            simp
          have main : ∀ ex tm σ1 r, ex = Ex.normal ∨ ex = Ex.ret → evCode P (evCall P X L n) L c (args ++ List.replicate (fn.ntmps - args.length) undef) σ = some (ex, tm, σ1) → evRes1 P σ1 tm fn.results.toList = some r → v = packV r → σ' = σ1 →
              Calls P f (args.map (ren E)).toArray w fun e w' => ∃ E', e = .returned (ren E' v) ∧ Rel K w0 σ' E' w' ∧ Ext σ.next E E' ∧ ok σ'.next E' v ∧ σ.next ≤ σ'.next := by
            rintro ex tm σ1 r hex hcode hres rfl rfl
            refine calls_of_wp hfn hb ?_
            rw [← hact]
            refine evCode_sound (evCall_sound hX hm L n) hm L c K w0 hK _ σ ex tm σ' hcode E w _ hr hg (fun c a w h => ?_) fun E1 w1 e1 e2 e3 e4 => ?_
            · obtain ⟨_, E', h1, _⟩ := h; cases h1
            · have h1 := results_sound e1 e3 hres
              have : bodyPost P fn (fun e w' => ∃ E', e = .returned (ren E' (packV r)) ∧ Rel K w0 σ' E' w' ∧ Ext σ.next E E' ∧ ok σ'.next E' (packV r) ∧ σ.next ≤ σ'.next) .normal (act E1 tm) w1 :=
                ⟨rfl, _, h1.1, E1, rfl, e1, e2, h1.2, e4⟩
              rcases hex with rfl | rfl <;> exact this
          split at h
          · cases h
          · rename_i ex tm σ1 hne hcode
            split at h
            · rename_i r hres
              cases h
              refine main ex tm σ' r ?_ hcode hres rfl rfl
              cases ex with
              | normal => exact Or.inl rfl
              | ret => exact Or.inr rfl
              | exit id => exact (hne id rfl).elim
            · cases h
          · cases h
        · cases h
      · cases h
end
end Go.Ev
