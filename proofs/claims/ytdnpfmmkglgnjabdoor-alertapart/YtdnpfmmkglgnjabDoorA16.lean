/-
  What the statements of layer 7 have in common: a store, and the reference's in a block of its own.
-/
import Derived.Test.YtdnpfmmkglgnjabDoorA15
import Derived.Test.YtdnpfmmkglgnjabDoorA5
namespace Go.Proofs.YtdnpfmmkglgnjabDoor
open Go.RowKit

theorem StAt.past {w w' : World} {sb bm : Nat} {S : List Rw} {X : Nat} {a : Option Addr} {n c : Nat} (h : StAt w sb bm S) (hg : w.grownBy w' (some X)) (hX : RsBlk w X a n c) : StAt w' sb bm S := by
  have h1 : sb ≠ X := fun e => by
    have h1 := h.1
    unfold StBlk at h1
    unfold RsBlk at hX
    rw [e, hX] at h1
    cases h1
  have h2 : bm ≠ X := fun e => by
    obtain ⟨es, clock, hb, -⟩ := h.2.1
    unfold RsBlk at hX
    rw [e, hX] at hb
    cases hb
  exact ⟨h.1.kept hg (fun e => h1 (Option.some.inj e)), h.2.1.kept hg (fun e => h2 (Option.some.inj e)), fun r hr => ⟨(h.2.2 r hr).1.past hg hX, (h.2.2 r hr).2⟩⟩
theorem AcC.turn {w w' : World} {b p : Nat} {x : Ac} {bm : Nat} (h : AcC w b p x) (hg : w.grownBy w' (some bm)) (hne : b ≠ bm) : AcC w' b p x := by
  have e := hg.block b h.1 (fun e => hne (Option.some.inj e))
  refine ⟨Nat.lt_of_lt_of_le h.1 hg.size, ?_⟩
  rw [World.cell?_of_block (a := ⟨b, p, none⟩) e, World.cell?_of_block (a := ⟨b, p + 1, none⟩) e, World.cell?_of_block (a := ⟨b, p + 2, none⟩) e, World.cell?_of_block (a := ⟨b, p + 3, none⟩) e, World.cell?_of_block (a := ⟨b, p + 4, none⟩) e]
  exact h.2
theorem AcC.other {w : World} {b p : Nat} {x : Ac} (h : AcC w b p x) {X j : Nat} {v : Value} (hne : b ≠ X) : AcC (w.setCell ⟨X, j, none⟩ v) b p x := by
  have e := Below.heap_setCell w ⟨X, j, none⟩ v b hne
  refine ⟨by simpa using h.1, ?_⟩
  rw [World.cell?_of_block (a := ⟨b, p, none⟩) e, World.cell?_of_block (a := ⟨b, p + 1, none⟩) e, World.cell?_of_block (a := ⟨b, p + 2, none⟩) e, World.cell?_of_block (a := ⟨b, p + 3, none⟩) e, World.cell?_of_block (a := ⟨b, p + 4, none⟩) e]
  exact h.2
/-- Both stores, and the block of the reference's. -/
def Both (w : World) (sb bm rb : Nat) (S : List Rw) (a : Option Addr) (n c : Nat) (R : List Rw) : Prop := n = R.length ∧ StAt w sb bm S ∧ RsAt w a c R ∧ Sim S R ∧ S.length ≤ 64 ∧ RsBlk w rb a n c
theorem Both.below {w w' : World} {sb bm rb : Nat} {S : List Rw} {a : Option Addr} {n c : Nat} {R : List Rw} (h : Both w sb bm rb S a n c R) (hb : Below w.heap.size w w') : Both w' sb bm rb S a n c R :=
  ⟨h.1, h.2.1.below hb (Nat.le_refl _), h.2.2.1.below hb (Nat.le_refl _), h.2.2.2.1, h.2.2.2.2.1, h.2.2.2.2.2.below hb (ltA h.2.2.2.2.2)⟩
/-- .. behind a call on both, whose store is laid into that block. -/
theorem Both.play {w w3 : World} {sb bm rb : Nat} {S : List Rw} {a : Option Addr} {n c : Nat} {R : List Rw} (h : Both w sb bm rb S a n c R) (hne : rb ≠ bm) {S3 R3 : List Rw} {a3 : Option Addr} {c3 : Nat} (hS3 : StAt w3 sb bm S3) (hR3 : RsAt w3 a3 c3 R3) (hsim3 : Sim S3 R3) (h643 : S3.length ≤ 64) (g3 : w.grownBy w3 (some bm)) :
    Both (w3.setCell ⟨rb, 0, none⟩ (.slice a3 R3.length c3)) sb bm rb S3 a3 R3.length c3 R3 := by
  have hrb3 := h.2.2.2.2.2.kept g3 (fun e => hne (Option.some.inj e))
  have hg := gSet w3 rb 0 (.slice a3 R3.length c3)
  exact ⟨rfl, hS3.past hg hrb3, ⟨hR3.1.past hg hrb3, hR3.2⟩, hsim3, h643, hrb3.set⟩
theorem rs_nil (w : World) : RsAt w none 0 [] := ⟨fun h => by simp at h, by simp, fun _ => rfl, (fun r hr => by cases hr), List.Pairwise.nil⟩

theorem fires_drop (S : List Rw) (b : Int) : (dropS S b).filter (fun r => firesP r.st r.en b) = S.filter (fun r => firesP r.st r.en b) := by
  unfold dropS
  rw [List.filter_filter]
  refine List.filter_congr fun r _ => ?_
  unfold firesP
  by_cases h1 : r.st ≤ b
  · by_cases h2 : b < r.en
    · simp [h1, h2]; omega
    · simp [h2]
  · simp [h1]
theorem drop_twice (S : List Rw) (b : Int) : dropS (dropS S b) b = dropS S b := by
  unfold dropS
  rw [List.filter_filter]
  simp
theorem Picked.turn {w w' : World} {B : Nat} {v : Value} {L : List Rw} {bm : Nat} (h : Picked w B v L) (hg : w.grownBy w' (some bm)) (hB : bm < B) : Picked w' B v L :=
  ⟨World.ownsRow.kept h.1 hg (.inr fun e => by have := (World.ownsRow.lt h.1 bm e).1; omega), fun r hr => World.ownsRow.kept (h.2 r hr) hg (.inr fun e => by have := (World.ownsRow.lt (h.2 r hr) bm e).1; omega)⟩
theorem st_fits {w : World} {sb bm : Nat} {S L : List Rw} (h : StAt w sb bm S) (hL : ∀ r ∈ L, ∃ s ∈ S, s.al = r.al) : Fits7 L := fun r hr => by
  obtain ⟨s, hs, e⟩ := hL r hr
  have h1 := acheck_len (alE_zero (h.2.2 s hs).2).1
  have e2 : s.ps = r.ps := congrArg (fun p : Al => p.1) e
  rw [← e2]
  omega
theorem al_mem {S L : List Rw} (h : L.map Rw.al = S.map Rw.al) : ∀ r ∈ L, ∃ s ∈ S, s.al = r.al := fun r hr => by
  have : r.al ∈ S.map Rw.al := by rw [← h]; exact List.mem_map.2 ⟨r, hr, rfl⟩
  obtain ⟨s, hs, e⟩ := List.mem_map.1 this
  exact ⟨s, hs, e⟩

end Go.Proofs.YtdnpfmmkglgnjabDoor
