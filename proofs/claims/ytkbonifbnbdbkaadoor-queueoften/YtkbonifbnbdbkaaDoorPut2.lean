/-
  What ben.New and ben.List do: a reader of bytes, and the bytes of all parts in memory of the call's own.
-/
import Derived.Test.YtkbonifbnbdbkaaDoorPut
import Derived.Laws.AppendOwnNone
namespace Go.Proofs.YtkbonifbnbdbkaaDoor
open Go.RowKit

/-- A slice of bytes that is read: nil, or bytes at an address. -/
def SrcAt (w : World) (v : Value) (l : List UInt8) : Prop :=
  (v = .slice none 0 0 ∧ l = []) ∨ ∃ q c, v = .slice (some q) l.length c ∧ ∀ i (hi : i < l.length), w.cell? (q.add i) = some (.int .u8 (l[i].toNat : Int))

theorem Own.src {w : World} {B : Nat} {v : Value} {l : List UInt8} (h : Own w B v l) : SrcAt w v l := by
  rcases h.2 with ⟨rfl, h0⟩ | ⟨g, cap, cur, rfl, -, -, -, -, -, -⟩
  · exact .inl ⟨rfl, List.eq_nil_of_length_eq_zero h0⟩
  · exact .inr ⟨⟨g, 0, none⟩, cap, rfl, fun i hi => World.ownsRow.cells h (g := g) rfl i _ (by simp [Lib.byteCells, hi])⟩

theorem SrcAt.below {w w' : World} {v : Value} {l : List UInt8} {B : Nat} (h : SrcAt w v l) (hb : Below B w w') (hB : w.heap.size ≤ B) : SrcAt w' v l := by
  rcases h with h | ⟨q, c, rfl, hc⟩
  · exact .inl h
  · refine .inr ⟨q, c, rfl, fun i hi => ?_⟩
    have := hc i hi
    rw [hb.cell (Nat.lt_of_lt_of_le (World.block_lt_of_cell? w _ this) hB)]
    exact this

theorem SrcAt.grown {w w' : World} {v : Value} {l : List UInt8} {r : Option Nat} (h : SrcAt w v l) (hg : w.grownBy w' r) (hr : ∀ q n c, v = .slice (some q) n c → some q.block ≠ r) : SrcAt w' v l := by
  rcases h with h | ⟨q, c, rfl, hc⟩
  · exact .inl h
  · exact .inr ⟨q, c, rfl, fun i hi => hg.cell (hc i hi) (by rw [add_block]; exact hr q _ c rfl)⟩

/-- The parts of a list, in memory. -/
def PartsAt (w : World) (q : Option Addr) (ls : List (List UInt8)) : Prop :=
  0 < ls.length → ∃ b o, q = some ⟨b, o, none⟩ ∧ ∀ i (hi : i < ls.length), ∃ v, w.cell? ⟨b, o + i, none⟩ = some v ∧ SrcAt w v ls[i]

/-- The bytes that List lays. -/
def putList (ls : List (List UInt8)) : List UInt8 := 108 :: ls.flatten ++ [101]

set_option maxHeartbeats 1000000 in
set_option maxRecDepth 100000 in
theorem List_any (q : Option Addr) (c : Nat) (ls : List (List UInt8)) (w : World) (h : PartsAt w q ls) (hn : ls.length ≤ 140737488355328) (hl : ls.flatten.length ≤ 140737488355000) :
    Calls Tryd.prog 45 #[.slice q ls.length c] w fun e w' => ∃ v, e = .returned v ∧ Own w' w.heap.size v (putList ls) ∧ Below w.heap.size w w' := by
  obtain ⟨i0, hi, hz0, hz1, hz2⟩ := info_parts infoByte
  go_enter Tryd.func45, Tryd.ntmps45
  go_wp2
  go_loopw [3, 9] (fun v i wr => ∃ k : Nat, k ≤ ls.length ∧ i = .int .i64 k ∧ Own wr w.heap.size v (108 :: (ls.take k).flatten) ∧ Below w.heap.size w wr) (fun _ i _ => ls.length - (intOf i).toNat)
  case atStart => exact ⟨0, Nat.zero_le _, rfl, own_one w w.heap.size (Nat.le_refl _) 108, (Below.refl _ _).alloc (Nat.le_refl _) _⟩
  case round =>
    obtain ⟨k, hk, rfl, hown, hnx⟩ := hrel
    by_cases hlt : k < ls.length
    · obtain ⟨b, o, rfl, hc⟩ := h (by omega)
      obtain ⟨v1, hcell, hsrc⟩ := hc k hlt
      have hcell1 : wr.cell? ⟨b, o + k, none⟩ = some v1 := by rw [hnx.cell (p := ⟨b, o + k, none⟩) (World.block_lt_of_cell? w _ hcell)]; exact hcell
      have hsrc1 := hsrc.below hnx (Nat.le_refl _)
      have hfl : (108 :: (ls.take (k + 1)).flatten) = (108 :: (ls.take k).flatten) ++ ls[k] := by
        rw [List.take_succ_eq_append_getElem hlt, List.flatten_append]; simp
      have hsum : ((ls.take k).flatten ++ ls[k]).length ≤ ls.flatten.length := by
        have e : ls.flatten = (ls.take (k + 1)).flatten ++ (ls.drop (k + 1)).flatten := by rw [← List.flatten_append, List.take_append_drop]
        rw [e, List.take_succ_eq_append_getElem hlt, List.flatten_append]; simp
      have HF := Lib.hid hfl
      rw [List.length_append] at hsum
      have hs1 := hnx.size
      clear hfl hsrc hcell hc
      generalize hg : ls[k] = g at *
      have HG := Lib.hid hg
      clear hg
      generalize ht : (ls.take k).flatten = tk at *
      have HT := Lib.hid ht
      clear ht
      rcases hsrc1 with ⟨rfl, rfl⟩ | ⟨q1, c1, rfl, hq⟩
      · go_wp2_with (at_builtin; refine wpList_append_own_none rfl _ _ 29 rfl w.heap.size 5 i0 1 Tryd.underlying29 hi _ _ _ rfl hown rfl ?_)
        go_roundw
        case rel => exact ⟨k + 1, by omega, by go_num, by rw [HF.out]; simpa using hown, hnx⟩
        case measure => simp [intOf]; omega
      · have hown' : wr.ownsRow w.heap.size 5 1 _ (108 :: tk).length (Lib.byteCells (108 :: tk)) := hown
        go_wp2_with (at_builtin; refine wpList_append_own _ rfl _ _ 29 rfl w.heap.size 5 i0 (.int .u8 0) 1 1 Tryd.underlying29 hi hz0 hz1 hz2 rfl (by decide) _ _ _ rfl hown' q1 g.length c1 (Lib.byteCells g) rfl (by simp [Lib.byteCells]) (by
            intro j u' hj
            simp only [Lib.byteCells, List.getElem?_map, Option.map_eq_some_iff] at hj
            obtain ⟨y, hy, rfl⟩ := hj
            obtain ⟨hj1, rfl⟩ := List.getElem?_eq_some_iff.1 hy
            exact hq j hj1) (by intro u' hu'; simp only [Lib.byteCells, List.mem_map] at hu'; obtain ⟨y, _, rfl⟩ := hu'; rfl) (by simp only [List.length_cons]; unfold maxLen; omega) (by simp only [List.length_cons]; omega) (by omega) ?_; refine Hid.out ?_)
        refine Lib.hid ?_
        intro v2 w2 hown2 hgrow _
        have hnx2 : Below w.heap.size w w2 := hnx.grown hgrow hs1 (fun j hj => (World.ownsRow.lt hown j hj).1)
        go_wp2
        go_roundw
        case rel => exact ⟨k + 1, by omega, by go_num, Own.of hown2 (by rw [HF.out]; simp [Lib.byteCells]), hnx2⟩
        case measure => simp [intOf]; omega
    · obtain rfl : k = ls.length := by omega
      rw [List.take_length] at hown
      have hs1 := hnx.size
      generalize ht : ls.flatten = tk at *
      have HT := Lib.hid ht
      clear ht
      have hown' : wr.ownsRow w.heap.size 5 1 _ (108 :: tk).length (Lib.byteCells (108 :: tk)) := hown
      go_wp2_with (at_builtin; refine wpList_append_own _ rfl _ _ 29 rfl w.heap.size 5 i0 (.int .u8 0) 1 1 Tryd.underlying29 hi hz0 hz1 hz2 rfl (by decide) _ _ _ rfl (hown'.alloc _) ⟨wr.heap.size, 0, none⟩ 1 1 [Value.int .u8 101] rfl rfl (by intro j u' hj; match j, hj with | 0, hj => simp at hj; subst hj; simp [Addr.add]) (by intro u' hu'; simp at hu'; subst hu'; rfl) (by simp only [List.length_cons]; unfold maxLen; omega) (by simp only [List.length_cons]; omega) (by simp; omega) ?_; refine Hid.out ?_)
      refine Lib.hid ?_
      intro v2 w2 hown2 hgrow _
      have hnx2 : Below w.heap.size w w2 := (hnx.alloc hs1 _).grown hgrow (by simp; omega) (fun j hj => (World.ownsRow.lt hown j hj).1)
      go_wp2
      go_ret
      exact ⟨v2, rfl, Own.of hown2 (by rw [putList, HT.out]; simp [Lib.byteCells]), hnx2⟩

theorem Own.form {w : World} {B : Nat} {v : Value} {l : List UInt8} (h : Own w B v l) : ∃ a k c, v = .slice a k c := by
  rcases h.2 with ⟨rfl, -⟩ | ⟨g, cap, cur, rfl, -, -, -, -, -, -⟩
  · exact ⟨_, _, _, rfl⟩
  · exact ⟨_, _, _, rfl⟩

theorem Int_valT (n : Int) (h0 : -9223372036854775808 ≤ n) (h1 : n ≤ 9223372036854775807) (B : Nat) (w : World) (hB : B ≤ w.heap.size) (hv : Lib.TabBelow Tryd.prog B w "internal/strconv.uint64pow10" .u64 Lib.pow10Tab) :
    Calls Tryd.prog 47 #[.int .i64 n] w fun e w' => ∃ a k c, e = .returned (.slice a k c) ∧ Own w' w.heap.size (.slice a k c) (putInt n) ∧ Below w.heap.size w w' :=
  (Int_tab n h0 h1 B w hB hv).mono fun e w' ⟨v, he, ho, hb⟩ => by obtain ⟨a, k, c, rfl⟩ := ho.form; exact ⟨a, k, c, he, ho, hb⟩
theorem Int_val (n : Int) (h0 : -9223372036854775808 ≤ n) (h1 : n ≤ 9223372036854775807) (B : Nat) (w : World) (hB : B ≤ w.heap.size) (hv : VarsOk B w) :
    Calls Tryd.prog 47 #[.int .i64 n] w fun e w' => ∃ a k c, e = .returned (.slice a k c) ∧ Own w' w.heap.size (.slice a k c) (putInt n) ∧ Below w.heap.size w w' :=
  (Int_any n h0 h1 B w hB hv).mono fun e w' ⟨v, he, ho, hb⟩ => by obtain ⟨a, k, c, rfl⟩ := ho.form; exact ⟨a, k, c, he, ho, hb⟩
theorem Text_valT (s : ByteArray) (hs : s.size ≤ 140737488351232) (B : Nat) (w : World) (hB : B ≤ w.heap.size) (hv : Lib.TabBelow Tryd.prog B w "internal/strconv.uint64pow10" .u64 Lib.pow10Tab) :
    Calls Tryd.prog 46 #[.string s] w fun e w' => ∃ a k c, e = .returned (.slice a k c) ∧ Own w' w.heap.size (.slice a k c) (putText s.data.toList) ∧ Below w.heap.size w w' :=
  (Text_tab s hs B w hB hv).mono fun e w' ⟨v, he, ho, hb⟩ => by obtain ⟨a, k, c, rfl⟩ := ho.form; exact ⟨a, k, c, he, ho, hb⟩
theorem Text_val (s : ByteArray) (hs : s.size ≤ 140737488351232) (B : Nat) (w : World) (hB : B ≤ w.heap.size) (hv : VarsOk B w) :
    Calls Tryd.prog 46 #[.string s] w fun e w' => ∃ a k c, e = .returned (.slice a k c) ∧ Own w' w.heap.size (.slice a k c) (putText s.data.toList) ∧ Below w.heap.size w w' :=
  (Text_any s hs B w hB hv).mono fun e w' ⟨v, he, ho, hb⟩ => by obtain ⟨a, k, c, rfl⟩ := ho.form; exact ⟨a, k, c, he, ho, hb⟩
theorem List_val (q : Option Addr) (c : Nat) (ls : List (List UInt8)) (w : World) (h : PartsAt w q ls) (hn : ls.length ≤ 140737488355328) (hl : ls.flatten.length ≤ 140737488355000) (n : Nat) (hnl : n = ls.length) :
    Calls Tryd.prog 45 #[.slice q n c] w fun e w' => ∃ a k c, e = .returned (.slice a k c) ∧ Own w' w.heap.size (.slice a k c) (putList ls) ∧ Below w.heap.size w w' := by
  subst hnl
  exact (List_any q c ls w h hn hl).mono fun e w' ⟨v, he, ho, hb⟩ => by obtain ⟨a, k, c, rfl⟩ := ho.form; exact ⟨a, k, c, he, ho, hb⟩

end Go.Proofs.YtkbonifbnbdbkaaDoor
