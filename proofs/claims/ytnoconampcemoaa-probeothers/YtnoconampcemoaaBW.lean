/-
  What the walks of the statements on members hold.
-/
import Derived.Test.YtnoconampcemoaaB11
namespace Go.Proofs.Ytnoconampcemoaa
open Go Go.RowKit

theorem getR_in {T : Tb} {k : Nat} {x : Mem} (hk : k < 64) (hf : T.f k = some x) : getR T k = (x, true) := by
  unfold getR atT
  rw [if_pos hk, hf]
  rfl
/-- What the loops hold of the table. -/
structure BSt (w wr : World) (T : Tb) : Prop where
  ok : TbOk T
  tab : TabBlk wr w.heap.size T
  below : Below w.heap.size w wr
theorem BSt.on {w wr u : World} {T : Tb} (h : BSt w wr T) (q : Below wr.heap.size wr u) : BSt w u T := ⟨h.ok, h.tab.on q, h.below.trans (q.mono h.below.size)⟩
theorem BSt.alloc {w wr : World} {T : Tb} (h : BSt w wr T) (o : Obj) : BSt w (wr.alloc o) T := h.on ((Below.refl _ wr).alloc (Nat.le_refl _) o)
theorem BSt.turn {w wr u : World} {T T' : Tb} (h : BSt w wr T) (g : wr.grownBy u (some w.heap.size)) (hok : TbOk T') (ht : TabBlk u w.heap.size T') : BSt w u T' :=
  ⟨hok, ht, h.below.grown g h.below.size (fun j e => by cases e; exact Nat.le_refl _)⟩
theorem BSt.lt {w wr : World} {T : Tb} (h : BSt w wr T) : w.heap.size < wr.heap.size := h.tab.lt
/-- Another table turned. -/
theorem BSt.past {w wr u : World} {T : Tb} {b : Nat} (h : BSt w wr T) (g : wr.grownBy u (some b)) (hb : w.heap.size < b) : BSt w u T :=
  ⟨h.ok, h.tab.kept g (by simp; omega), h.below.grown g h.below.size (fun j e => by cases e; omega)⟩
/-- Members as they come in. -/
def FitM (l : List Mem) : Prop := ∀ m ∈ l, 0 ≤ m.n ∧ 0 ≤ m.s
theorem TbOk.fit {T : Tb} (h : TbOk T) : FitM (memsB T) := fun m hm => by
  have e := (mem_memsB h).1 hm
  obtain ⟨h1, h2, -⟩ := h.ok _ m e
  exact ⟨by omega, h2⟩
theorem NodesAt.on {w u : World} {a : Option Addr} {l : List Int} (h : NodesAt w a l) (q : Below w.heap.size w u) : NodesAt u a l := fun hn => by
  obtain ⟨b, o, e, hlt, hc⟩ := h hn
  exact ⟨b, o, e, Nat.lt_of_lt_of_le hlt q.size, fun i hi => (q.cell (p := ⟨b, _, none⟩) hlt).trans (hc i hi)⟩
theorem NodesAt.skip {w u : World} {a : Option Addr} {l : List Int} {b : Nat} (h : NodesAt w a l) (g : w.grownBy u (some b)) (hne : ∀ q, a = some q → q.block ≠ b) : NodesAt u a l := fun hn => by
  obtain ⟨c, o, rfl, hlt, hc⟩ := h hn
  have := hne _ rfl
  exact ⟨c, o, rfl, Nat.lt_of_lt_of_le hlt g.size, fun i hi => g.cell (hc i hi) (by simpa using this)⟩
theorem NodesAt.get {w : World} {a : Option Addr} {l : List Int} (h : NodesAt w a l) (k : Nat) (hk : k < l.length) : ∃ b o, a = some ⟨b, o, none⟩ ∧ w.cell? ⟨b, o + k, none⟩ = some (.int .u16 l[k]) := by
  obtain ⟨b, o, e, -, hc⟩ := h (by omega)
  exact ⟨b, o, e, hc k hk⟩
theorem thereB_node {T : Tb} (h : TbOk T) {x : Int} (hx : x ∈ thereB T) : ∃ k : Nat, x = (k : Int) ∧ k < 64 := by
  unfold thereB thereL at hx
  obtain ⟨m, hm, rfl⟩ := List.mem_map.1 hx
  have hm2 := (mem_memsB h).1 (List.mem_filter.1 hm).1
  have := h.lt hm2
  have := (h.ok _ m hm2).1
  exact ⟨m.n.toNat, this, by assumption⟩
/-- A table that has what another one has, by its own place in the list of those that are there. -/
theorem posB_at {T U : Tb} (h : TbOk T) (he : memsB U = memsB T) {i : Nat} (hi : i < (thereB T).length) (hs : (thereB T)[i] = (U.s : Int)) : posB U = i := by
  unfold posB thereB
  rw [he]
  exact posL_sorted _ i hi (thereB_sorted h) U.s hs
theorem merge_own {T : Tb} (h : TbOk T) : mergeM T (memsB T) = [] ∧ mergeB T (memsB T) = T := news_none h rfl _ (fun _ hm => hm)

end Go.Proofs.Ytnoconampcemoaa
