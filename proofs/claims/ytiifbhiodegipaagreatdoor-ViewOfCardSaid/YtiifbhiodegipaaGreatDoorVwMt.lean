/- What the program takes of an item is what the document reads of it. -/
import Derived.Test.YtiifbhiodegipaaGreatDoorVwAll
import Derived.Test.YtiifbhiodegipaaGreatDoorVwAl
namespace Go.Proofs.YtiifbhiodegipaaGreatDoor
open Go.RowKit
def addR (r : DR) (s : VwS) : VwS := match r with
  | .pool q => { s with pools := s.pools ++ [q] }
  | .blk b => { s with blks := s.blks ++ [b] }
  | .aff n a st => { s with affs := VM.putE (.string (keyF n a)) (.int .i64 st) s.affs }
  | .han n L => { s with hans := VM.putE (keyL n) L s.hans }
  | .nod n g => { s with nods := VM.putE (keyL n) (.bool g) s.nods }
  | _ => s
def drV (r : DR) (s : VwS) : Option VwS := match r with
  | .no => none
  | r => some (addR r s)
theorem tkP_eq (k v : ByteArray) (s : VwS) (h : NM.starts k NM.pPool = true) : tkP k v s = drV (rdPl k v) s := by
  unfold tkP plOf rdPl
  rw [dnet_eq, h]
  cases hr : NM.rnet (NM.rest k NM.pPool).data.toList with
  | none => rfl
  | some p =>
    obtain ⟨a, b⟩ := p
    obtain ⟨_, _, ha, ha'⟩ := NM.rnet_some hr
    simp only [Bool.true_and, decide_eq_true_eq]
    have hback : ∀ o, RC.rightB a b = true → strOfNums (RC.poolL a b o) = v → RC.poolB v = true ∧ (RC.u1 v).1 = a ∧ (RC.u2 v).1 = b ∧ ((RC.u3 v).1 == 1) = o := by
      intro o h1 h2
      have := RC.poolB_of (o := o) h1 ha ha'
      rwa [h2] at this
    unfold plRd
    by_cases hp : RC.poolB v = true
    · obtain ⟨hr1, hs⟩ := RC.poolB_back hp
      rw [if_pos hp]
      by_cases he : (RC.u1 v).1 = a ∧ (RC.u2 v).1 = b
      · obtain ⟨rfl, rfl⟩ := he
        have hb26 : (RC.u2 v).1 ≤ 26 := by
          have h2 := hr1
          unfold RC.rightB at h2
          simp only [Bool.and_eq_true, decide_eq_true_eq] at h2
          exact h2.2.2
        rw [if_pos hb26]
        simp only [and_self, if_true]
        unfold plD
        rw [if_pos hr1]
        cases ho : ((RC.u3 v).1 == 1) with
        | false =>
          rw [ho] at hs
          rw [if_pos hs]
          rfl
        | true =>
          rw [ho] at hs
          rw [if_neg (fun e => by have := (hback false hr1 e).2.2.2; rw [ho] at this; cases this), if_pos hs]
          rfl
      · have hno : plD a b v = none := by
          unfold plD
          split
          · rename_i hr2
            split
            · rename_i e
              have := hback false hr2 e
              exact absurd ⟨this.2.1, this.2.2.1⟩ he
            · split
              · rename_i e
                have := hback true hr2 e
                exact absurd ⟨this.2.1, this.2.2.1⟩ he
              · rfl
          · rfl
        rw [hno]
        by_cases hb : b ≤ 26
        · rw [if_pos hb]
          show (if _ then _ else none) = _
          rw [if_neg he]
          rfl
        · rw [if_neg hb]
          rfl
    · rw [if_neg hp]
      have hno : plD a b v = none := by
        unfold plD
        split
        · rename_i hr2
          split
          · rename_i e
            exact absurd (hback false hr2 e).1 hp
          · split
            · rename_i e
              exact absurd (hback true hr2 e).1 hp
            · rfl
        · rfl
      rw [hno]
      by_cases hb : b ≤ 26
      · rw [if_pos hb]
        rfl
      · rw [if_neg hb]
        rfl
theorem tkB_eq (k v : ByteArray) (s : VwS) (h : NM.starts k NM.pBlk = true) : tkB k v s = drV (rdBl k v) s := by
  unfold tkB blOf rdBl NM.rblk
  rw [dnet_eq, if_pos h]
  cases hr : NM.rnet (NM.rest k NM.pBlk).data.toList with
  | none => rfl
  | some p =>
    simp only []
    by_cases h26 : p.2 = 26
    · rw [if_pos h26]
      simp only [h26, beq_self_eq_true, Bool.true_and, Bool.and_eq_true, beq_iff_eq]
      by_cases hc : imOk v = true ∧ (imC v).addr = p.1
      · rw [if_pos hc, if_pos ⟨hc.1, hc.2.symm⟩]
        rfl
      · rw [if_neg hc, if_neg (fun e => hc ⟨e.1, e.2.symm⟩)]
        rfl
    · rw [if_neg h26, if_neg (by simp [h26])]
      rfl
theorem tkA_eq (k v : ByteArray) (s : VwS) (h : NM.starts k NM.pAff = true) : tkA k v s = drV (rdAf k v) s := by
  have e : affOf k = affP (NM.rest k NM.pAff) := by
    unfold affOf affP
    rw [h]
    rfl
  unfold tkA rdAf
  rw [e]
  cases affP (NM.rest k NM.pAff) with
  | none => rfl
  | some p => cases affRd v <;> rfl
theorem tkH_eq (k v : ByteArray) (s : VwS) (h : NM.starts k NM.pHan = true) : tkH k v s = drV (rdHn k v) s := by
  unfold tkH hanOf rdHn
  rw [h, Bool.true_and]
  cases NM.okName (NM.rest k NM.pHan).data.toList <;> cases HN.okHB v <;> rfl
theorem tkN_eq (k v : ByteArray) (s : VwS) : tkN k v s = drV (rdNd k v) s := by
  unfold tkN rdNd rdN
  cases nodOf k with
  | false => rfl
  | true =>
    simp only [if_true]
    cases nodRd v <;> rfl
theorem tkP_no {k v : ByteArray} {s : VwS} (h : NM.starts k NM.pPool = false) : tkP k v s = none := by
  unfold tkP plOf
  rw [h]
  cases NM.rnet (NM.rest k NM.pPool).data.toList <;> rfl
theorem tkB_no {k v : ByteArray} {s : VwS} (h : NM.starts k NM.pBlk = false) : tkB k v s = none := by
  unfold tkB blOf
  rw [h]
  rfl
theorem tkA_no {k v : ByteArray} {s : VwS} (h : NM.starts k NM.pAff = false) : tkA k v s = none := by
  unfold tkA affOf
  rw [h]
  cases NM.rblk (NM.cutB (NM.rest k NM.pAff)).data.toList <;> rfl
theorem tkH_no {k v : ByteArray} {s : VwS} (h : NM.starts k NM.pHan = false) : tkH k v s = none := by
  unfold tkH hanOf
  rw [h]
  rfl
theorem tkN_no {k v : ByteArray} {s : VwS} (h : NM.starts k NM.pNod = false) : tkN k v s = none := by
  unfold tkN nodOf
  rw [h]
  rfl
theorem tkAny_eq (k v : ByteArray) (s : VwS) : tkAny k v s = drV (rdAny k v) s := by
  unfold tkAny rdAny
  by_cases hl : lockB k v = true
  · rw [if_pos hl, if_pos hl]; rfl
  rw [if_neg hl, if_neg hl]
  by_cases hP : NM.starts k NM.pPool = true
  · rw [if_pos hP, tkP_eq k v s hP, tkB_no (NM.not_starts hP rfl rfl (by decide)), tkA_no (NM.not_starts hP rfl rfl (by decide)), tkH_no (NM.not_starts hP rfl rfl (by decide)), tkN_no (NM.not_starts hP rfl rfl (by decide))]
    cases drV (rdPl k v) s <;> rfl
  have hP := Bool.eq_false_iff.2 hP
  rw [tkP_no hP, hP, if_neg (by simp)]
  by_cases hB : NM.starts k NM.pBlk = true
  · rw [if_pos hB, tkB_eq k v s hB, tkA_no (NM.not_starts hB rfl rfl (by decide)), tkH_no (NM.not_starts hB rfl rfl (by decide)), tkN_no (NM.not_starts hB rfl rfl (by decide))]
    cases drV (rdBl k v) s <;> rfl
  have hB := Bool.eq_false_iff.2 hB
  rw [tkB_no hB, hB, if_neg (by simp)]
  by_cases hA : NM.starts k NM.pAff = true
  · rw [if_pos hA, tkA_eq k v s hA, tkH_no (NM.not_starts hA rfl rfl (by decide)), tkN_no (NM.not_starts hA rfl rfl (by decide))]
    cases drV (rdAf k v) s <;> rfl
  have hA := Bool.eq_false_iff.2 hA
  rw [tkA_no hA, hA, if_neg (by simp)]
  by_cases hH : NM.starts k NM.pHan = true
  · rw [if_pos hH, tkH_eq k v s hH, tkN_no (NM.not_starts hH rfl rfl (by decide))]
    cases drV (rdHn k v) s <;> rfl
  have hH := Bool.eq_false_iff.2 hH
  rw [tkH_no hH, hH, if_neg (by simp), tkN_eq]
def sumR (rs : List DR) : VwS := rs.foldl (fun s r => addR r s) vw0
theorem sumR_snoc (rs : List DR) (r : DR) : sumR (rs ++ [r]) = addR r (sumR rs) := by unfold sumR; rw [List.foldl_append]; rfl
abbrev rdI (q : IT) : DR := rdAny q.1 q.2.1
theorem vwN_all (L : List IT) : ∀ i, i ≤ L.length → vwN tkAny L i = (allN L i).map sumR
  | 0, _ => rfl
  | i + 1, hi => by
    have ih := vwN_all L i (by omega)
    have hq : L[i]? = some L[i] := List.getElem?_eq_getElem (by omega)
    rw [vwN, allN, ih, hq]
    cases allN L i with
    | none => rfl
    | some rs =>
      simp only [Option.map_some]
      split
      · rfl
      · rw [tkAny_eq]
        cases hr : rdAny L[i].1 L[i].2.1 with
        | no => rfl
        | _ =>
          simp only [Option.map_some, sumR_snoc]
          rfl
theorem allN_some {L : List IT} : ∀ {i : Nat} {rs : List DR}, i ≤ L.length → allN L i = some rs → rs = (L.take i).map rdI ∧ (L.take i).Pairwise (fun a b => a.1 ≠ b.1)
  | 0, rs, _, h => by
    obtain rfl : [] = rs := Option.some.inj h
    exact ⟨rfl, List.Pairwise.nil⟩
  | i + 1, rs, hi, h => by
    have hq : L[i]? = some L[i] := List.getElem?_eq_getElem (by omega)
    rw [allN] at h
    cases ha : allN L i with
    | none => rw [ha] at h; cases h
    | some qs =>
      rw [ha, hq] at h
      simp only [] at h
      obtain ⟨h1, h2⟩ := allN_some (by omega) ha
      split at h
      · cases h
      · rename_i hd
        have e : some (qs ++ [rdI L[i]]) = some rs := by
          revert h
          show (match rdI L[i] with | .no => none | r => some (qs ++ [r])) = some rs → _
          cases rdI L[i] with
          | no => intro h; cases h
          | _ => exact id
        obtain rfl := Option.some.inj e
        rw [List.take_add_one, hq]
        refine ⟨by rw [List.map_append, ← h1]; rfl, ?_⟩
        rw [List.pairwise_append]
        refine ⟨h2, List.pairwise_singleton _ _, fun a ha b hb => ?_⟩
        obtain rfl : b = L[i] := by simpa using hb
        intro e
        apply hd
        rw [List.any_eq_true]
        exact ⟨a, ha, by simp [e]⟩
theorem snocL {α : Type} {P : List α → Prop} (h0 : P []) (hs : ∀ l x, P l → P (l ++ [x])) : ∀ l, P l := fun l => by
  have h : ∀ m : List α, P m.reverse := fun m => by
    induction m with
    | nil => exact h0
    | cons x m ih => rw [List.reverse_cons]; exact hs _ _ ih
  have := h l.reverse
  rwa [List.reverse_reverse] at this
/-! Entries under keys of their own. -/
theorem fold_put {β : Type} (es : List (Lit × β)) (hk : ∀ e ∈ es, WideAt.IsKeyLit e.1) (hd : es.Pairwise (fun a b => a.1 ≠ b.1)) :
    (es.foldl (fun m p => VM.putE p.1 p.2 m) []).length = es.length ∧ (∀ e ∈ es, VM.getE (es.foldl (fun m p => VM.putE p.1 p.2 m) []) e.1 = some e.2) ∧ ∀ k, WideAt.IsKeyLit k → (∀ e ∈ es, e.1 ≠ k) → VM.getE (es.foldl (fun m p => VM.putE p.1 p.2 m) []) k = none := by
  revert hk hd
  refine snocL (P := fun es => (∀ e ∈ es, WideAt.IsKeyLit e.1) → es.Pairwise (fun a b => a.1 ≠ b.1) → (es.foldl (fun m p => VM.putE p.1 p.2 m) []).length = es.length ∧ (∀ e ∈ es, VM.getE (es.foldl (fun m p => VM.putE p.1 p.2 m) []) e.1 = some e.2) ∧ ∀ k, WideAt.IsKeyLit k → (∀ e ∈ es, e.1 ≠ k) → VM.getE (es.foldl (fun m p => VM.putE p.1 p.2 m) []) k = none) ?_ ?_ es
  · intro _ _
    exact ⟨rfl, (fun e he => by cases he), fun k _ _ => rfl⟩
  · intro l x ih hk hd
    rw [List.pairwise_append] at hd
    obtain ⟨h1, h2, h3⟩ := ih (fun e he => hk e (List.mem_append_left _ he)) hd.1
    have hx := hk x (List.mem_append_right _ (List.mem_singleton.2 rfl))
    have hne : ∀ e ∈ l, e.1 ≠ x.1 := fun e he => hd.2.2 e he x (List.mem_singleton.2 rfl)
    have hn := h3 x.1 hx hne
    rw [List.foldl_append]
    simp only [List.foldl_cons, List.foldl_nil]
    refine ⟨by rw [VM.put_new _ hn, h1, List.length_append]; rfl, fun e he => ?_, fun k hkk hke => ?_⟩
    · rcases List.mem_append.1 he with he | he
      · rw [VM.get_put_ne hx (hk e (List.mem_append_left _ he)) (fun z => hne e he z.symm)]
        exact h2 e he
      · rw [List.mem_singleton.1 he]
        exact VM.get_put hx _ _
    · rw [VM.get_put_ne hx hkk (hke x (List.mem_append_right _ (List.mem_singleton.2 rfl)))]
      exact h3 k hkk (fun e he => hke e (List.mem_append_left _ he))
def poR (r : DR) : Option P3 := match r with
  | .pool q => some q
  | _ => none
def blR (r : DR) : Option BlkS := match r with
  | .blk b => some b
  | _ => none
def afR (r : DR) : Option VM.Ent := match r with
  | .aff n a st => some (.string (keyF n a), .int .i64 st)
  | _ => none
def haR (r : DR) : Option (Lit × List (Int × Int)) := match r with
  | .han n L => some (keyL n, L)
  | _ => none
def noR (r : DR) : Option VM.Ent := match r with
  | .nod n g => some (keyL n, .bool g)
  | _ => none
theorem sumR_eq (rs : List DR) : sumR rs = ⟨rs.filterMap poR, rs.filterMap blR, (rs.filterMap afR).foldl (fun m p => VM.putE p.1 p.2 m) [], (rs.filterMap haR).foldl (fun m p => VM.putE p.1 p.2 m) [], (rs.filterMap noR).foldl (fun m p => VM.putE p.1 p.2 m) []⟩ := by
  refine snocL (P := fun rs => sumR rs = ⟨rs.filterMap poR, rs.filterMap blR, (rs.filterMap afR).foldl (fun m p => VM.putE p.1 p.2 m) [], (rs.filterMap haR).foldl (fun m p => VM.putE p.1 p.2 m) [], (rs.filterMap noR).foldl (fun m p => VM.putE p.1 p.2 m) []⟩) rfl ?_ rs
  intro l r ih
  rw [sumR_snoc, ih]
  simp only [List.filterMap_append, List.foldl_append]
  cases r <;> (simp only [addR]; first | rfl | (congr 1 <;> first | rfl | exact (List.append_nil _).symm))
theorem cnt_filterMap {β : Type} (f : DR → Option β) (k : Int) (hf : ∀ r, (f r).isSome = (kindR r == k)) (rs : List DR) : (rs.filterMap f).length = (rs.filter (fun r => kindR r == k)).length := by
  induction rs with
  | nil => rfl
  | cons r rs ih =>
    have h := hf r
    cases hr : f r with
    | none =>
      rw [hr] at h
      rw [List.filterMap_cons_none hr, List.filter_cons_of_neg (by rw [← h]; simp), ih]
    | some x =>
      rw [hr] at h
      rw [List.filterMap_cons_some hr, List.filter_cons_of_pos (by rw [← h]; rfl), List.length_cons, List.length_cons, ih]
theorem poR_is (r : DR) : (poR r).isSome = (kindR r == 1) := by cases r <;> rfl
theorem blR_is (r : DR) : (blR r).isSome = (kindR r == 2) := by cases r <;> rfl
theorem afR_is (r : DR) : (afR r).isSome = (kindR r == 3) := by cases r <;> rfl
theorem haR_is (r : DR) : (haR r).isSome = (kindR r == 4) := by cases r <;> rfl
theorem noR_is (r : DR) : (noR r).isSome = (kindR r == 5) := by cases r <;> rfl
/-- The place of a record among those of its kind. -/
theorem at_filterMap {β : Type} (f : DR → Option β) (rs : List DR) (i : Nat) (r : DR) (x : β) (hi : rs[i]? = some r) (hx : f r = some x) : (rs.filterMap f)[((rs.take i).filterMap f).length]? = some x := by
  induction rs generalizing i with
  | nil => cases hi
  | cons a rs ih =>
    cases i with
    | zero =>
      obtain rfl : a = r := by simpa using hi
      rw [List.take_zero, List.filterMap_cons_some hx]
      rfl
    | succ i =>
      have hi' : rs[i]? = some r := by simpa using hi
      have h := ih i hi'
      rw [List.take_succ_cons]
      cases ha : f a with
      | none =>
        rw [List.filterMap_cons_none ha, List.filterMap_cons_none ha]
        exact h
      | some y =>
        rw [List.filterMap_cons_some ha, List.filterMap_cons_some ha, List.length_cons, List.getElem?_cons_succ]
        exact h
/-! A record's name tells its key. -/
theorem key_han {k v n : ByteArray} {L : List (Int × Int)} (h : rdAny k v = .han n L) : k = NM.pHan ++ n := by
  unfold rdAny at h
  split at h
  · cases h
  split at h
  · unfold rdPl at h; split at h
    · split at h <;> cases h
    · cases h
  split at h
  · unfold rdBl at h; split at h
    · split at h <;> cases h
    · cases h
  split at h
  · unfold rdAf at h; split at h <;> cases h
  split at h
  · rename_i hs
    unfold rdHn at h
    split at h
    · cases h
      exact NM.rest_eq hs
    · cases h
  · unfold rdNd at h; split at h <;> cases h
theorem key_nod {k v n : ByteArray} {g : Bool} (h : rdAny k v = .nod n g) : k = NM.pNod ++ n := by
  unfold rdAny at h
  split at h
  · cases h
  split at h
  · unfold rdPl at h; split at h
    · split at h <;> cases h
    · cases h
  split at h
  · unfold rdBl at h; split at h
    · split at h <;> cases h
    · cases h
  split at h
  · unfold rdAf at h; split at h <;> cases h
  split at h
  · unfold rdHn at h
    split at h <;> cases h
  · unfold rdNd rdN nodOf at h
    split at h
    · rename_i hn
      split at hn
      · rename_i hs
        rw [Bool.and_eq_true] at hs
        cases h
        exact NM.rest_eq hs.1
      · cases hn
    · cases h
theorem key_aff {k v n : ByteArray} {a st : Int} (hk : k.size ≤ 590) (h : rdAny k v = .aff n a st) : k = NM.pAff ++ (n ++ NM.slash ++ ⟨(NM.blkTxt a).toArray⟩) ∧ n.size ≤ maxLen ∧ (Lit.int .u32 a).wf = true := by
  unfold rdAny at h
  split at h
  · cases h
  split at h
  · unfold rdPl at h; split at h
    · split at h <;> cases h
    · cases h
  split at h
  · unfold rdBl at h; split at h
    · split at h <;> cases h
    · cases h
  split at h
  · rename_i hs
    unfold rdAf at h
    split at h
    · rename_i p q hp hq
      cases h
      unfold affP at hp
      split at hp
      · rename_i b hb
        split at hp
        · cases hp
          refine ⟨?_, ?_, ?_⟩
          · rw [← NM.cut_back hb]
            exact NM.rest_eq hs
          · show (NM.cutN _).size ≤ _
            unfold NM.cutN
            rw [NM.size_mk]
            have h2 := NM.cut_le1 (NM.rest k NM.pAff).data.toList NM.slash.data.toList
            have h3 := NM.rest_size k NM.pAff
            have h4 : (NM.rest k NM.pAff).data.toList.length = (NM.rest k NM.pAff).size := by rw [Array.length_toList, ByteArray.size_data]
            have h5 : (900 : Nat) ≤ maxLen := by decide
            omega
          · obtain ⟨_, _, h0, h1⟩ := NM.rblk_some hb
            exact Go.WalkArith.wf_u32 ⟨h0, by omega⟩
        · cases hp
      · cases hp
    · cases h
  split at h
  · unfold rdHn at h
    split at h <;> cases h
  · unfold rdNd at h; split at h <;> cases h
theorem keyF_inj {n n' : ByteArray} {a a' : Int} (h1 : n.size ≤ maxLen) (h2 : (Lit.int .u32 a).wf = true) (h3 : n'.size ≤ maxLen) (h4 : (Lit.int .u32 a').wf = true) (h : keyF n a = keyF n' a') : n = n' ∧ a = a' := by
  have h5 := keyedAf.inj (keyAf h1 h2) (by rw [h]; exact keyAf h3 h4)
  injection h5 with h5
  injection h5 with h5
  injection h5 with e1 e2
  injection e2 with e2 _
  injection e1 with e1
  injection e2 with _ e2
  exact ⟨e1, e2⟩
theorem keyL_inj {n n' : ByteArray} (h : keyL n = keyL n') : n = n' := by
  injection h with h
  exact ByteArray.ext (Array.ext' h)
end Go.Proofs.YtiifbhiodegipaaGreatDoor
