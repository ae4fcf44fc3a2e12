/-
  What Light of the reference tells; the closed case of layer 13.
-/
import Derived.Test.YtchhdffehkcecaaDoorP9
namespace Go.Proofs.YtchhdffehkcecaaDoor
open Go Go.RowKit

/-- Light tells yes just where there are few of all. -/
def LPost (nm : Nat) (es : List Ent) (w : World) (e : Ending) (w' : World) : Prop := ∃ r : Bool, e = .returned (.bool r) ∧ (r = true → nm ≤ 80 ∧ es.length ≤ 260 ∧ ∀ x ∈ es, x.k.size ≤ 40000 ∧ x.v.size ≤ 40000) ∧ Below w.heap.size w w'
set_option maxRecDepth 100000 in
set_option maxHeartbeats 4000000 in
theorem yLightP_any (k f a q : Int) (am : Option Addr) (nm cm : Nat) (ae : Option Addr) (ne ce : Nat) (es : List Ent) (W : World) (hne : ne = es.length) (hE : EntsAt W ae es) :
    Calls Tryd.prog 8 #[.agg #[.int .u8 k, .int .u16 f, .int .u16 a, .int .i64 q, .slice am nm cm, .slice ae ne ce]] W (LPost nm es W) := by
  have d1 := (Below.refl W.heap.size W).alloc (Nat.le_refl _) (.cells #[.int .u8 k, .int .u16 f, .int .u16 a, .int .i64 q, .slice am nm cm, .slice ae ne ce] 26)
  have b1 := PkBlk.new W k f a q am nm cm ae ne ce
  have x4 := b1.c4; have x5 := b1.c5
  have HZ := Lib.hid (And.intro b1 (And.intro d1 (hE.onP d1)))
  have HN := Lib.hid hne
  have hne' : ne = es.length := hne
  clear b1 d1 hE
  by_cases h1 : 80 < nm
  · have g1 : (80 : Int) < (nm : Int) := by omega
    clear hne hne' HN
    go_enter Tryd.func8, Tryd.ntmps8
    go_wp2
    go_ret
    unfold LPost
    exact ⟨false, rfl, (fun h => by cases h), HZ.out.2.1⟩
  by_cases h2 : 260 < ne
  · have g1 : ¬ (80 : Int) < (nm : Int) := by omega
    have g2 : (260 : Int) < (ne : Int) := by omega
    clear hne hne' HN
    go_enter Tryd.func8, Tryd.ntmps8
    go_wp2
    go_ret
    unfold LPost
    exact ⟨false, rfl, (fun h => by cases h), HZ.out.2.1⟩
  have g1 : ¬ (80 : Int) < (nm : Int) := by omega
  have g2 : ¬ (260 : Int) < (ne : Int) := by omega
  clear hne hne'
  go_enter Tryd.func8, Tryd.ntmps8
  go_wp2
  generalize hw1 : W.alloc (.cells #[.int .u8 k, .int .u16 f, .int .u16 a, .int .i64 q, .slice am nm cm, .slice ae ne ce] 26) = w1 at *
  clear hw1
  go_loopw [3, 4] (fun v i wr => ∃ (t : Nat) (n : Int), t ≤ ne ∧ i = .int .i64 t ∧ v = .int .i64 n ∧ 0 ≤ n ∧ n ≤ 40000 ∧ wr = w1 ∧ Hid (∀ j (hj : j < es.length), j < t → es[j].k.size ≤ 40000 ∧ es[j].v.size ≤ 40000)) (fun _ i _ => ne - (intOf i).toNat)
  case atStart => exact ⟨0, 0, Nat.zero_le _, rfl, rfl, by omega, by omega, rfl, Lib.hid (fun j _ h => by omega)⟩
  case round =>
    obtain ⟨t, n, ht, rfl, rfl, hn0, hn1, hwr, HF⟩ := hrel
    subst hwr
    by_cases hlt : t < ne
    · have hkl : (t : Int) < (ne : Int) := by omega
      have hkx : t < es.length := by have := HN.out; omega
      obtain ⟨b, o, rfl, hb, c0, c1, c2, c3, c4⟩ := HZ.out.2.2.cellsP t hkx
      have HS : Hid (es[t].k.size ≤ 40000 → es[t].v.size ≤ 40000 → ∀ j (hj : j < es.length), j < t + 1 → es[j].k.size ≤ 40000 ∧ es[j].v.size ≤ 40000) := Lib.hid (fun h h' j hj hjk => by
        by_cases e : j = t
        · subst e; exact ⟨h, h'⟩
        · exact HF.out j hj (by omega))
      generalize es[t] = x at *
      obtain ⟨kx, tx, ox, vx, ux⟩ := x
      dsimp only at c0 c1 c2 c3 c4 HS
      clear hb hkx
      by_cases p1 : 40000 < n + min (vx.size : Int) 40001
      · go_wp2
        go_ret
        unfold LPost
        exact ⟨false, rfl, (fun h => by cases h), HZ.out.2.1⟩
      by_cases p2 : 40000 < n + min (vx.size : Int) 40001 + min (kx.size : Int) 40001
      · go_wp2
        go_ret
        unfold LPost
        exact ⟨false, rfl, (fun h => by cases h), HZ.out.2.1⟩
      have HS2 := Lib.hid (HS.out (by omega) (by omega))
      have HP := Lib.hid (show 0 ≤ n + min (vx.size : Int) 40001 + min (kx.size : Int) 40001 ∧ n + min (vx.size : Int) 40001 + min (kx.size : Int) 40001 ≤ 40000 by omega)
      clear HS HF
      go_wp2
      go_roundw
      case rel => exact ⟨t + 1, _, by omega, by go_num, rfl, HP.out.1, HP.out.2, trivial, HS2⟩
      case measure => simp [intOf]; omega
    · have hkl : ¬ (t : Int) < (ne : Int) := by omega
      have HQ : Hid (nm ≤ 80 ∧ es.length ≤ 260 ∧ ∀ x ∈ es, x.k.size ≤ 40000 ∧ x.v.size ≤ 40000) := Lib.hid ⟨by omega, by have := HN.out; omega, fun x hx => by
        obtain ⟨j, hj, rfl⟩ := List.getElem_of_mem hx
        exact HF.out j hj (by have := HN.out; omega)⟩
      clear HF
      go_wp2
      go_ret
      unfold LPost
      exact ⟨true, rfl, fun _ => HQ.out, HZ.out.2.1⟩

end Go.Proofs.YtchhdffehkcecaaDoor
