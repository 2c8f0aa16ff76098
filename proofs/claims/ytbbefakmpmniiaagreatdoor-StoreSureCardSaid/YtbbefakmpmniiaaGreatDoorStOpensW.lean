/- The walk of StoreOpens. -/
import Derived.Test.YtbbefakmpmniiaaGreatDoorSm1
namespace Go.Proofs.YtbbefakmpmniiaaGreatDoor
open Go.RowKit Go.Maps
open KV (bcell bdrew)
/-- A store stays what it is where its disk alone is turned. -/
theorem SAll.moved {w w' : World} {s g l k : Nat} {P P' Pk : Nat → Prop} {T : WSt} {S : KV.KSt} {ev wr : Int} {dead : Bool} {D' : DSt} (h : SAll w s g l k P Pk T S ev wr dead) (hS : Step P P' w w') (hD : DiskAt w' g P' D') : SAll w' s g l k P' Pk ⟨D', T.size, T.dead⟩ S ev wr dead := by
  obtain ⟨h1, h2, h3, h4, h5, h6, h7, h8⟩ := h
  refine ⟨(hS.1.2.2.2.2 s (heap_lt h1) h7).trans h1, hD, h3.keep hS.1 h6, h4.keep hS.1 (fun i hi hp => (h5 i hi).1 hp), fun i hi => ⟨fun hp => ?_, (h5 i hi).2⟩, fun hp => ?_, fun hp => ?_, h8⟩
  · rcases hS.2 i hp with h | h
    · exact (h5 i hi).1 h
    · have := KV.KvAt.own h4 i hi; omega
  · rcases hS.2 l hp with h | h
    · exact h6 h
    · have := heap_lt h3; omega
  · rcases hS.2 s hp with h | h
    · exact h7 h
    · have := heap_lt h1; omega
end Go.Proofs.YtbbefakmpmniiaaGreatDoor
