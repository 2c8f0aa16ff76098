/- Package handle: bytes that are read as a handle are just that one's; what was put is read. -/
import Derived.Test.YtcgkambkfaeceaaHnReadB
namespace Go.Proofs.Ytcgkambkfaeceaa
open Go.RowKit
theorem okB_cnt8 (L : CntL) : okB (L.flatMap cnt8) := fun x hx => by
  obtain ⟨p, _, hp⟩ := List.mem_flatMap.1 hx
  unfold cnt8 at hp
  rcases List.mem_append.1 hp with h | h
  · exact okB_putL _ _ x h
  · exact okB_putL _ _ x h
theorem read_back {s : ByteArray} (h : okHB s = true) : rightH (readR s).1 = true ∧ strOfNums (hnB (readR s).1) = s := by
  unfold okHB at h
  simp only [Bool.and_eq_true] at h
  obtain ⟨h1, h2, h3⟩ := h
  refine ⟨h3, str_eq ?_⟩
  have hd := doneB_some h2
  obtain ⟨a1, a2, a3⟩ := rdU_bd2 (some (strI (rest s pH))) (okB_strI _) 2 (by decide)
  obtain ⟨l, e1, e2, e3⟩ := rdC_back (hst1 s).1.toNat (hst1 s).2 [] a3 hd
  obtain ⟨m, f1, f2, -, -, -⟩ := rdU_back (st := some (strI (rest s pH))) (okB_strI _) e1 wOk2
  cases f1
  have hc := strI_cons (s := s) (c := 72) h1
  have hr : (rdU (some (strI (rest s pH))) 2).1 = ((readR s).1.length : Int) := by
    have : ((hst1 s).1.toNat : Int) = (hst1 s).1 := Int.toNat_of_nonneg a1
    rw [show (readR s).1.length = (hst1 s).1.toNat from e3, this]; rfl
  rw [hc, show rest s ⟨#[72]⟩ = rest s pH from rfl, f2, hr, e2, List.append_nil]
  unfold hnB readR
  simp
theorem read_put {L : CntL} (hb : CntBd L) (hr : rightH L = true) (hl : L.length ≤ 4000) : okHB (strOfNums (hnB L)) = true ∧ (readR (strOfNums (hnB L))).1 = L := by
  have hok := ((right_iff L).1 hr).1
  have hl0 : okB (putL L.length 2 ++ L.flatMap cnt8) := okB_app (okB_putL _ _) (okB_cnt8 L)
  obtain ⟨h1, h2⟩ := starts_cons 72 (by decide) (putL L.length 2 ++ L.flatMap cnt8) hl0
  have e0 : hnB L = 72 :: (putL L.length 2 ++ L.flatMap cnt8) := by unfold hnB; simp
  have ep : (⟨#[UInt8.ofNat (72 : Int).toNat]⟩ : ByteArray) = pH := rfl
  rw [ep] at h1 h2
  rw [← e0] at h1 h2
  have e1 : hst1 (strOfNums (hnB L)) = ((L.length : Int), some (L.flatMap cnt8)) := by
    unfold hst1
    rw [h2, rd_put _ wOk2, numBE_put2' ⟨by omega, by omega⟩]
  have e2 : readR (strOfNums (hnB L)) = (L, some []) := by
    unfold readR
    rw [e1]
    have := rdC_put L [] (fun p hp => by
      have h3 := hb p hp
      have h4 := hok p hp
      unfold CntOk at h4
      omega)
    rw [List.append_nil] at this
    simpa using this
  refine ⟨?_, by rw [e2]⟩
  unfold okHB
  rw [h1, e2, hr]
  rfl
end Go.Proofs.Ytcgkambkfaeceaa
