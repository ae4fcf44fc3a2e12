/-
  Where the first = or ! of a text stands: strings.IndexAny of any bytes.
-/
import Derived.Test.YtbkejafjlapmnaaDoorM8
import Derived.Lib.OthersKept
namespace Go.Proofs.YtbkejafjlapmnaaDoor
open Go.RowKit Go.Shelf
open Go.Lib (iterAt_heap iterAt_other iterAt_size run_next_any_at run_next_ascii_at run_next_end_at below_iterAt)

theorem heap_new' (w : World) (o : Obj) : (w.alloc o).heap[w.heap.size]? = some o := by
  show (w.heap.push o)[w.heap.size]? = some o
  exact Array.getElem?_push_size

set_option maxRecDepth 20000 in
set_option maxHeartbeats 2000000 in
theorem idxAny_short (s cs : ByteArray) (w : World) (hcs : cs.size = 2) (hc : ∀ i (hi : i < cs.size), (cs[i]'hi).toNat < 128) (h8 : s.size ≤ 8) :
    Calls Tryd.prog 31 #[.string s, .string cs] w fun e w' => e = .returned (.int .i64 (Lib.indexAny s.data.toList cs.data.toList)) ∧ Below w.heap.size w w' := by
  have hemp : cs.toList.isEmpty = false := by
    rw [Lib.toList_data]
    cases h : cs.data.toList with
    | nil => have := Lib.size_eq cs; rw [h, List.length_nil] at this; omega
    | cons _ _ => rfl
  have hn1 : ((cs.size : Int) == 1) = false := beq_eq_false_iff_ne.2 (by omega)
  have h8z : decide ((8 : Int) < (s.size : Int)) = false := decide_eq_false (by omega)
  have HS := Lib.hid (fun n u => Any.strings_shouldUseASCIISet { Tryd.lIndexAny with } n u)
  have HA := Lib.hid (fun (r : Int) u (k0 : 0 ≤ r) (k1 : r < 128) => Any.strings_IndexRune_ascii { Tryd.lIndexAny with } cs r u k0 k1)
  have HH := Lib.hid (fun (r : Nat) (k0 : 128 ≤ r) (k1 : r ≤ 2147483647) u => idxRune_high cs hcs hc r k0 k1 u)
  have hcn : ∀ b : UInt8, 128 ≤ b.toNat → cs.data.toList.contains b = false := fun b hb => by
    rw [Bool.eq_false_iff]
    intro e
    have hm : b ∈ cs.data.toList := by simpa using e
    obtain ⟨i, hi, rfl⟩ := List.getElem_of_mem hm
    have hi2 : i < cs.size := by simpa using hi
    have := hc i hi2
    have e2 : cs.data.toList[i] = cs[i]'hi2 := by rfl
    rw [e2] at hb
    omega
  have HCN := Lib.hid hcn
  clear hcn hcs hc
  go_enter Tryd.func31, Tryd.ntmps31
  go_wp2_with (go_at_call 64; refine (HS.out _ _).mono ?_; rintro e w' ⟨rfl, hw⟩; rw [hw, h8z])
  go_loopg [9, 10] s.size (fun g _ _ wx => ∃ i : Nat, i + g = s.size ∧ wx.heap[w.heap.size]? = some (.stringIter s i) ∧ Below w.heap.size w wx ∧ Hid (Lib.NoAny s.data.toList cs.data.toList i))
  case atStart => exact ⟨0, by omega, heap_new' w _, (Below.refl _ _).alloc (Nat.le_refl _) _, Lib.hid (Lib.NoAny.zero _ _)⟩
  case round =>
    obtain ⟨i, hig, hit, hb, HN⟩ := hrel
    have hil := (Array.getElem?_eq_some_iff.1 hit).1
    have hbI : ∀ p, Below w.heap.size w (wr.iterAt w.heap.size s p) := fun p => below_iterAt hb (Nat.le_refl _) s p
    cases gk with
    | zero =>
      obtain rfl : i = s.size := by omega
      have hnx := fun ty => run_next_end_at (P := Tryd.prog) wr w.heap.size s s.size ty hit (by omega)
      have HE : Hid (Lib.indexAny s.data.toList cs.data.toList = -1) := Lib.hid (Lib.indexAny_none (by rw [← Lib.size_eq]; exact HN.out))
      clear HN hit
      go_wp2
      go_ret
      exact ⟨by rw [HE.out]; rfl, hb⟩
    | succ g =>
      have hi : i < s.size := by omega
      have hxl : s.data.toList[i]? = some (s[i]'hi) := Lib.data_getElem? s i hi
      by_cases ha : (s[i]'hi).toNat < 128
      · have hnx := fun ty => run_next_ascii_at (P := Tryd.prog) wr w.heap.size s i ty hit hi ha
        have hw2 := iterAt_heap wr w.heap.size s i (i + 1) hit
        have hb2 := hbI (i + 1)
        have hcon := Lib.contains_iff_indexByte cs.data.toList (s[i]'hi)
        have hback : (((s[i]'hi).toNat : Int)).toNat.toUInt8 = s[i]'hi := by simp
        have hA := HA.out (((s[i]'hi).toNat : Int)) (wr.iterAt w.heap.size s (i + 1)) (by omega) (by omega)
        rw [hback] at hA
        change Calls Tryd.prog 63 _ _ _ at hA
        have HA' := Lib.hid hA
        cases hin : cs.data.toList.contains (s[i]'hi) with
        | false =>
          rw [hin] at hcon
          have hlt : ¬ ((0 : Int) ≤ Lib.indexByte cs.data.toList (s[i]'hi)) := of_decide_eq_false hcon.symm
          have HN2 := Lib.hid (HN.out.succ hxl hin)
          clear hcon hA hback hxl hin HN
          generalize Lib.indexByte cs.data.toList (s[i]'hi) = r at *
          go_wp2_with (go_at_call 63; refine HA'.out.mono ?_; rintro e w' ⟨rfl, hw⟩; rw [hw])
          go_roundg g
          case measure => omega
          case rel => exact ⟨i + 1, by omega, hw2, hb2, HN2⟩
        | true =>
          rw [hin] at hcon
          have hge : (0 : Int) ≤ Lib.indexByte cs.data.toList (s[i]'hi) := of_decide_eq_true hcon.symm
          have HE := Lib.hid (Lib.indexAny_hit HN.out hxl hin)
          clear hcon hA hback hxl hin HN
          generalize Lib.indexByte cs.data.toList (s[i]'hi) = r at *
          go_wp2_with (go_at_call 63; refine HA'.out.mono ?_; rintro e w' ⟨rfl, hw⟩; rw [hw])
          go_ret
          exact ⟨by rw [HE.out]; rfl, hb2⟩
      · have hh : 128 ≤ (s[i]'hi).toNat := by omega
        have hnx := fun ty => run_next_any_at (P := Tryd.prog) wr w.heap.size s i ty hit hi
        have hd := decode_high s i hi hh
        have hdl := decode_le s i
        have hroom := decode_room s i hi hh
        have HN2 : Hid (Lib.NoAny s.data.toList cs.data.toList (i + (Utf8.decode s i).2)) := Lib.hid (noAny_run HN.out fun j b h1 h2 h3 => by
          obtain ⟨hj, hjb⟩ := decode_bytes s i hi hh (j - i) (by omega)
          have e : i + (j - i) = j := by omega
          refine HCN.out b ?_
          have h4 := Lib.data_getElem? s j (by omega)
          rw [h3] at h4
          rw [Option.some.inj h4]
          simpa [e] using hjb)
        have hw2 := iterAt_heap wr w.heap.size s i (i + (Utf8.decode s i).2) hit
        have hb2 := hbI (i + (Utf8.decode s i).2)
        have HH' := Lib.hid (HH.out (Utf8.decode s i).1 hd.1 hdl (wr.iterAt w.heap.size s (i + (Utf8.decode s i).2)))
        have hd2 := hd.2
        clear hd hdl HN hxl hh ha
        generalize (Utf8.decode s i).1 = r at *
        generalize (Utf8.decode s i).2 = d at *
        go_wp2_with (go_at_call 63; refine HH'.out.mono ?_; rintro e w2 ⟨rfl, q2⟩)
        go_roundg (s.size - (i + d))
        case measure => omega
        case rel => exact ⟨i + d, by omega, (q2.block w.heap.size (by rw [iterAt_size]; exact hil)).trans hw2, hb2.trans (q2.mono hb2.size), HN2⟩

theorem asciiSet_info : (Tryd.prog.info? (Tryd.lIndexAny_ren.t 116)).map (fun i => (i.zero, i.size)) = some (some (.agg (Array.replicate 256 (.bool false))), 256) := by kernel_rfl

/-- strings.IndexAny, of any bytes, of two ASCII ones. -/
theorem idxAny_any (s cs : ByteArray) (w : World) (hcs : cs.size = 2) (hc : ∀ i (hi : i < cs.size), (cs[i]'hi).toNat < 128) (hs : s.size < 4294967281) :
    Calls Tryd.prog 31 #[.string s, .string cs] w fun e w' => e = .returned (.int .i64 (Lib.indexAny s.data.toList cs.data.toList)) ∧ Below w.heap.size w w' := by
  by_cases h8 : s.size ≤ 8
  · exact idxAny_short s cs w hcs hc h8
  · refine (Any.strings_IndexAny_long Tryd.lIndexAny (zero_of_info asciiSet_info).1 (zero_of_info asciiSet_info).2 s cs w (by omega) (by omega) hs (by omega) ?_).mono fun e w' ⟨h1, h2⟩ => ⟨h1, ?_⟩
    · intro j b hj
      obtain ⟨hj2, rfl⟩ := List.getElem?_eq_some_iff.1 hj
      have hi2 : j < cs.size := by simpa using hj2
      exact hc j hi2
    · rw [h2]
      exact ((Below.refl _ _).alloc (Nat.le_refl _) _).alloc (by simp) _

end Go.Proofs.YtbkejafjlapmnaaDoor
