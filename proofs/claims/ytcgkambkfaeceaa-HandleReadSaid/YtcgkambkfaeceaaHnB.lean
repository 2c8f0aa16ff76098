/- Package handle: where a count stands, by halves. -/
import Derived.Test.YtcgkambkfaeceaaHnA
import Derived.Deep.Cut
namespace Go.Proofs.Ytcgkambkfaeceaa
open Go.RowKit
def cmpI (a b : Int) : Int := if a < b then -1 else if b < a then 1 else 0
theorem isNaN_any (a : Int) (w : World) : Calls Try.prog 57 #[.int .u32 a] w fun e w' => e = .returned (.bool false) ∧ w = w' := by
  have d : (a != a) = false := by simp
  go_enter Try.func57, Try.ntmps57
  go_wp2_with fail
  go_ret
  exact ⟨rfl, rfl⟩
theorem cmpU_any (a b : Int) (w : World) : Calls Try.prog 51 #[.int .u32 a, .int .u32 b] w fun e w' => e = .returned (.int .i64 (cmpI a b)) ∧ w = w' := by
  have HN := Lib.hid (fun a w => isNaN_any a w)
  generalize hR : cmpI a b = R
  have HR := Lib.hid hR
  unfold cmpI at hR
  by_cases h1 : a < b
  · have d1 : decide (a < b) = true := by simpa using h1
    rw [if_pos h1] at hR
    subst hR
    go_enter Try.func51, Try.ntmps51
    go_wp2_with fail
    refine (HN.out _ _).mono ?_; rintro e w' ⟨rfl, rfl⟩
    go_wp2_with fail
    refine (HN.out _ _).mono ?_; rintro e w' ⟨rfl, rfl⟩
    go_wp2_with fail
    go_ret
    exact ⟨rfl, rfl⟩
  · have d1 : decide (a < b) = false := by simpa using h1
    rw [if_neg h1] at hR
    by_cases h2 : b < a
    · have d2 : decide (b < a) = true := by simpa using h2
      rw [if_pos h2] at hR
      subst hR
      go_enter Try.func51, Try.ntmps51
      go_wp2_with fail
      refine (HN.out _ _).mono ?_; rintro e w' ⟨rfl, rfl⟩
      go_wp2_with fail
      refine (HN.out _ _).mono ?_; rintro e w' ⟨rfl, rfl⟩
      go_wp2_with fail
      go_ret
      exact ⟨rfl, rfl⟩
    · have d2 : decide (b < a) = false := by simpa using h2
      rw [if_neg h2] at hR
      subst hR
      go_enter Try.func51, Try.ntmps51
      go_wp2_with fail
      refine (HN.out _ _).mono ?_; rintro e w' ⟨rfl, rfl⟩
      go_wp2_with fail
      refine (HN.out _ _).mono ?_; rintro e w' ⟨rfl, rfl⟩
      go_wp2_with fail
      go_ret
      exact ⟨rfl, rfl⟩
theorem placeC_any (x n b : Int) (w : World) : Calls Try.prog 50 #[.agg #[.int .u32 x, .int .i64 n], .int .u32 b] w fun e w' => e = .returned (.int .i64 (cmpI x b)) ∧ Below w.heap.size w w' := by
  have HC := Lib.hid (fun w => cmpU_any x b w)
  have HB := Lib.hid (belNew w (cntO (x, n) 50))
  go_enter Try.func50, Try.ntmps50
  go_wp2_with fail
  refine (HC.out _).mono ?_; rintro e w' ⟨rfl, rfl⟩
  go_wp2_with fail
  go_ret
  exact ⟨rfl, HB.out⟩
theorem cmpI_neg (a b : Int) : decide (cmpI a b < 0) = decide (a < b) := by unfold cmpI; split <;> rename_i h <;> simp [h]; split <;> simp
theorem cmpI_zero (a b : Int) : (cmpI a b == 0) = decide (a = b) := by
  unfold cmpI
  split
  · have : ¬ a = b := by omega
    simp [this]
  · split
    · have : ¬ a = b := by omega
      simp [this]
    · have : a = b := by omega
      simp [this]
/-- Those ahead of the place are below, the others are not. -/
theorem cntB_below {L : CntL} {b : Int} : ∀ {i : Nat}, i < cntB L b → (at2 L i).1 < b := by
  induction L with
  | nil => intro i h; exact absurd h (by unfold cntB; simp)
  | cons p L ih =>
    intro i h
    by_cases hp : p.1 < b
    · rw [cntB_cons_lt hp] at h
      cases i with
      | zero => rw [at2_zero]; exact hp
      | succ i => rw [at2_succ]; exact ih (by omega)
    · rw [cntB_cons_ge hp] at h; omega
theorem cntB_above {L : CntL} {b : Int} (hs : L.Pairwise (fun p q => p.1 < q.1)) : ∀ {i : Nat}, cntB L b ≤ i → i < L.length → ¬ (at2 L i).1 < b := by
  induction L with
  | nil => intro i _ h; simp at h
  | cons p L ih =>
    obtain ⟨k1, k2⟩ := List.pairwise_cons.1 hs
    intro i h hi
    by_cases hp : p.1 < b
    · rw [cntB_cons_lt hp] at h
      cases i with
      | zero => omega
      | succ i => rw [at2_succ]; exact ih k2 (by omega) (by simpa using hi)
    · cases i with
      | zero => rw [at2_zero]; exact hp
      | succ i =>
        rw [at2_succ]
        have h1 : i < L.length := by simpa using hi
        have := k1 _ (List.mem_of_getElem? (at2_get h1))
        omega
set_option maxRecDepth 100000 in
set_option maxHeartbeats 8000000 in
theorem bsf_any (v : Value) (L : CntL) (b : Int) (w : World) (h : SeesC w v L) (hs : L.Pairwise (fun p q => p.1 < q.1)) (hl : L.length ≤ 1000000) :
    Calls Try.prog 49 #[v, .int .u32 b, .func (.func 50) #[] #[]] w fun e w' => e = .returned (.tuple #[.int .i64 (cntB L b : Nat), .bool (thereB L b)]) ∧ Below w.heap.size w w' := by
  obtain ⟨ao, c, rfl, hlc, hnil, hc⟩ := h
  have HC := Lib.hid (And.intro hnil hc)
  have HS := Lib.hid hs
  have HP := Lib.hid (fun x n w => placeC_any x n b w)
  have hcl := cntB_le L b
  have HT : Hid (thereB L b = (decide (cntB L b < L.length) && decide ((at2 L (cntB L b)).1 = b))) := Lib.hid rfl
  have HBL := Lib.hid (fun (i : Nat) (h : i < cntB L b) => cntB_below h)
  have HAB := Lib.hid (fun (i : Nat) (h : cntB L b ≤ i) (h2 : i < L.length) => cntB_above hs h h2)
  generalize cntB L b = K at *
  generalize hT : thereB L b = T at HT ⊢
  clear hnil hc hs hT
  go_enter Try.func49, Try.ntmps49
  go_wp2_with fail
  go_loopw [9, 10] (fun i j wr => ∃ lo hi : Nat, lo ≤ K ∧ K ≤ hi ∧ hi ≤ L.length ∧ i = .int .i64 lo ∧ j = .int .i64 hi ∧ Hid (Below w.heap.size w wr)) (fun i j _ => (intOf j - intOf i).toNat)
  case atStart => exact ⟨0, L.length, Nat.zero_le _, hcl, Nat.le_refl _, rfl, rfl, Lib.hid (Below.refl _ _)⟩
  case round =>
    obtain ⟨lo, hi, h1, h2, h3, rfl, rfl, HBw⟩ := hrel
    by_cases hlt : lo < hi
    · have d1 : decide ((lo : Int) < (hi : Int)) = true := by simp; omega
      obtain ⟨m, hm⟩ : ∃ m, (lo + hi) / 2 = m := ⟨_, rfl⟩
      have hm1 : lo ≤ m ∧ m < hi := by omega
      have hmI : ((lo : Int) + hi) / 2 = m := by omega
      have hmt : ((lo : Int) + hi) / 2 ^ 1 = m := by omega
      obtain ⟨a, rfl⟩ : ∃ a, ao = some a := by
        cases ao with
        | none => exact absurd (HC.out.1 rfl) (by intro e; rw [e] at h3; simp at h3; omega)
        | some a => exact ⟨a, rfl⟩
      obtain ⟨q0, q1⟩ := HC.out.2 a rfl m _ (at2_get (by omega))
      have q0 := bcell HBw.out q0
      have q1 := ofs1 (bcell HBw.out q1)
      have b0 : (0 : Int) ≤ (m : Int) := by omega
      have b1 : (m : Int) < (L.length : Int) := by omega
      have HM := Lib.hid hm
      have HMI := Lib.hid hmI
      have HLO := Lib.hid (fun h : ¬ (at2 L m).1 < b => Nat.le_of_not_lt (fun h3 : m < K => h (HBL.out m h3)))
      have HHI := Lib.hid (fun h : (at2 L m).1 < b => Nat.lt_of_not_le (fun h4 : K ≤ m => absurd h (Int.not_lt.2 (HAB.out m h4 (by omega)))))
      have HMB := Lib.hid hm1
      generalize at2 L m = p at q0 q1 HLO HHI
      obtain ⟨px, pn⟩ := p
      simp only [] at q0 q1 HLO HHI
      have HNG := Lib.hid (cmpI_neg px b)
      generalize hcm : cmpI px b = cm at HNG
      have HPC := Lib.hid (fun w => HP.out px pn w)
      rw [hcm] at HPC
      clear hcm
      by_cases hx : px < b
      · have d2 : decide (cm < 0) = true := by rw [HNG.out]; simpa using hx
        have hk := HHI.out hx
        have HK := Lib.hid hk
        clear hx hk
        go_wp2_with fail
        refine (HPC.out _).mono ?_; rintro e w1 ⟨rfl, hb1⟩
        have HB1 := Lib.hid (bel HBw.out hb1)
        clear hb1 q0 q1
        go_wp2_with fail
        go_roundw
        case rel => exact ⟨m + 1, hi, HK.out, h2, h3, by go_num, rfl, HB1⟩
        case measure => simp [intOf]; have := HMB.out; omega
      · have d2 : decide (cm < 0) = false := by rw [HNG.out]; simpa using hx
        have hk := HLO.out hx
        have HK := Lib.hid hk
        clear hx hk
        go_wp2_with fail
        refine (HPC.out _).mono ?_; rintro e w1 ⟨rfl, hb1⟩
        have HB1 := Lib.hid (bel HBw.out hb1)
        clear hb1 q0 q1
        go_wp2_with fail
        go_roundw
        case rel => exact ⟨lo, m, h1, HK.out, by have := HMB.out; omega, rfl, rfl, HB1⟩
        case measure => simp [intOf]; have := HMB.out; omega
    · obtain rfl : lo = K := by omega
      obtain rfl : hi = lo := by omega
      have d1 : decide ((hi : Int) < (hi : Int)) = false := by simp
      by_cases hlen : hi < L.length
      · have d3 : decide ((hi : Int) < (L.length : Int)) = true := by simp; omega
        obtain ⟨a, rfl⟩ : ∃ a, ao = some a := by
          cases ao with
          | none => exact absurd (HC.out.1 rfl) (by intro e; rw [e] at hlen; simp at hlen)
          | some a => exact ⟨a, rfl⟩
        obtain ⟨q0, q1⟩ := HC.out.2 a rfl hi _ (at2_get hlen)
        have q0 := bcell HBw.out q0
        have q1 := ofs1 (bcell HBw.out q1)
        have b0 : (0 : Int) ≤ (hi : Int) := by omega
        have b1 : (hi : Int) < (L.length : Int) := by omega
        rw [decide_eq_true hlen, Bool.true_and] at HT
        generalize at2 L hi = p at q0 q1 HT
        obtain ⟨px, pn⟩ := p
        simp only [] at q0 q1 HT
        have hz := cmpI_zero px b
        have HPC := Lib.hid (fun w => HP.out px pn w)
        have HTZ : Hid ((cmpI px b == 0) = T) := Lib.hid (by rw [hz, HT.out])
        generalize cmpI px b = cm at HPC HTZ
        clear hz hlen
        go_wp2_with fail
        refine (HPC.out _).mono ?_; rintro e w1 ⟨rfl, hb1⟩
        have HB1 := Lib.hid (bel HBw.out hb1)
        clear hb1 q0 q1
        go_wp2_with fail
        refine bodyPost_ret (v := .tuple #[.int .i64 hi, .bool (cm == 0)]) ?_ rfl ⟨by rw [HTZ.out], HB1.out⟩
        simp [results, Try.results49, go_sem]
      · have d3 : decide ((hi : Int) < (L.length : Int)) = false := by simp; omega
        rw [decide_eq_false hlen, Bool.false_and] at HT
        have d4 : decide (hi < L.length) = false := by simpa using hlen
        have d5 : (L.length : Int) ≤ (hi : Int) := by omega
        go_wp2_with fail
        go_ret2
        exact ⟨by rw [HT.out]; rfl, HBw.out⟩
theorem place_any (v : Value) (L : CntL) (a : Int) (w : World) (h : SeesC w v L) (hs : L.Pairwise (fun p q => p.1 < q.1)) (hl : L.length ≤ 1000000) (ha : 0 ≤ a) (ha' : a < 4294967296) :
    Calls Try.prog 35 #[v, .int .u32 a] w fun e w' => e = .returned (.tuple #[.int .i64 (cntB L (a - a % 64) : Nat), .bool (thereB L (a - a % 64))]) ∧ Below w.heap.size w w' := by
  have HF := Lib.hid (first_any a ha ha' w)
  have HB := Lib.hid (fun (w1 : World) (hb : Below w.heap.size w w1) => bsf_any v L (a - a % 64) w1 (h.below hb) hs hl)
  obtain ⟨ao, c, rfl, -⟩ := h
  generalize thereB L (a - a % 64) = T at HB ⊢
  generalize cntB L (a - a % 64) = K at HB ⊢
  generalize a - a % 64 = b at HF HB
  go_enter Try.func35, Try.ntmps35
  go_wp2_with fail
  refine HF.out.mono ?_; rintro e w1 ⟨rfl, hb1⟩
  have HB1 := Lib.hid hb1
  clear hb1
  go_wp2_with fail
  refine (HB.out _ HB1.out).mono ?_; rintro e w2 ⟨rfl, hb2⟩
  have HB2 := Lib.hid (bel HB1.out hb2)
  clear hb2
  go_wp2_with fail
  go_ret2
  exact ⟨rfl, HB2.out⟩
end Go.Proofs.Ytcgkambkfaeceaa
