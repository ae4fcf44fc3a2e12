/-
  Where the first = or ! of a text stands: strings.IndexAny of any bytes. Where the first = or ! of a text stands: strings.IndexAny of any bytes.
-/
import Derived.Test.YtbkejafjlapmnaaDoorMShelf
import Derived.Test.YtbkejafjlapmnaaDoorXTz
import Derived.Laws.RangeAny
import Derived.Laws.Runes
import Derived.WalkMore
import Derived.Lib.OthersKept
namespace Go.Proofs.YtbkejafjlapmnaaDoor
open Go.RowKit Go.Shelf

/-- A rune that is not ASCII takes bytes that are not. -/
theorem decode_bytes (s : ByteArray) (pos : Nat) (h : pos < s.size) (ha : 128 ≤ (s[pos]'h).toNat) (k : Nat) (hk : k < (Utf8.decode s pos).2) : ∃ h2 : pos + k < s.size, 128 ≤ (s[pos + k]'h2).toNat := by
  have hn : ¬ (s[pos]'h).toNat < 128 := by omega
  have hg : ∀ j (hj : pos + j < s.size), s.get! (pos + j) = s[pos + j]'hj := fun j hj => get_at s (pos + j) hj
  have HQ : Hid (∀ j, pos + j < s.size ∧ (s.get! (pos + j)).toNat / 64 = 2 → ∃ h2 : pos + j < s.size, 128 ≤ (s[pos + j]'h2).toNat) := Lib.hid fun j ⟨h1, h2⟩ => ⟨h1, by rw [hg j h1] at h2; omega⟩
  rcases Nat.eq_zero_or_pos k with rfl | hk0
  · exact ⟨h, ha⟩
  simp only [Utf8.decode, get_at s pos h, hn, if_false] at hk
  revert hk
  repeat' split
  all_goals intro hk
  all_goals simp_all
  all_goals try omega
  · rename_i _ hc _
    obtain rfl : k = 1 := by omega
    exact ⟨hc.2.1, HQ.out 1 hc.2⟩
  · rename_i _ hc _
    rcases (by omega : k = 1 ∨ k = 2) with rfl | rfl
    · exact ⟨hc.1.2.1, HQ.out 1 hc.1.2⟩
    · exact ⟨hc.2.1, HQ.out 2 hc.2⟩
  · rename_i _ hc _
    rcases (by omega : k = 1 ∨ k = 2 ∨ k = 3) with rfl | rfl | rfl
    · exact ⟨hc.1.1.2.1, HQ.out 1 hc.1.1.2⟩
    · exact ⟨hc.1.2.1, HQ.out 2 hc.1.2⟩
    · exact ⟨hc.2.1, HQ.out 3 hc.2⟩

theorem decode_room (s : ByteArray) (pos : Nat) (h : pos < s.size) (ha : 128 ≤ (s[pos]'h).toNat) : pos + (Utf8.decode s pos).2 ≤ s.size := by
  have h1 := (decode_high s pos h ha).2
  obtain ⟨h2, -⟩ := decode_bytes s pos h ha ((Utf8.decode s pos).2 - 1) (by omega)
  omega

set_option maxRecDepth 20000 in
set_option maxHeartbeats 1000000 in
theorem validRune_any (r : Nat) (w : World) : Calls Tryd.prog 83 #[.int .i32 (r : Int)] w fun e w' => e = .returned (.bool (Utf8.valid r)) ∧ w' = w := by
  have h0 : (0 : Int) ≤ (r : Int) := by omega
  obtain ⟨V, HV⟩ : ∃ V, Hid (Utf8.valid r = V) := ⟨_, Lib.hid rfl⟩
  rw [HV.out]
  have HE : Hid (V = (decide ((0 : Int) ≤ (r : Int)) && decide ((r : Int) < 55296) || decide ((57344 : Int) ≤ (r : Int)) && decide ((r : Int) ≤ 1114111))) := Lib.hid (by rw [← HV.out]; rfl)
  clear HV
  by_cases h1 : r < 55296
  · have h1' : (r : Int) < 55296 := by omega
    obtain rfl : V = true := by rw [HE.out]; simp; omega
    clear HE
    go_enter Tryd.func83, Tryd.ntmps83
    go_wp2
    go_ret
    exact ⟨rfl, rfl⟩
  · have h1' : ¬ (r : Int) < 55296 := by omega
    by_cases h2 : 57343 < r
    · have h2' : (57343 : Int) < (r : Int) := by omega
      by_cases h3 : r ≤ 1114111
      · have h3' : (r : Int) ≤ 1114111 := by omega
        obtain rfl : V = true := by rw [HE.out]; simp; omega
        clear HE
        go_enter Tryd.func83, Tryd.ntmps83
        go_wp2
        go_ret
        exact ⟨rfl, rfl⟩
      · have h3' : ¬ (r : Int) ≤ 1114111 := by omega
        obtain rfl : V = false := by rw [HE.out]; simp; omega
        clear HE
        go_enter Tryd.func83, Tryd.ntmps83
        go_wp2
        go_ret
        exact ⟨rfl, rfl⟩
    · have h2' : ¬ (57343 : Int) < (r : Int) := by omega
      obtain rfl : V = false := by rw [HE.out]; simp; omega
      clear HE
      go_enter Tryd.func83, Tryd.ntmps83
      go_wp2
      go_ret
      exact ⟨rfl, rfl⟩

set_option maxRecDepth 20000 in
set_option maxHeartbeats 1000000 in
theorem sIndexByte_none (t : ByteArray) (ht : t.size = 0) (c : UInt8) (w : World) : Calls Tryd.prog 82 #[.string t, .int .u8 c.toNat] w fun e w' => e = .returned (.int .i64 (-1)) ∧ w' = w := by
  have hs : ∀ d, firstIdx t d = -1 := fun d => by unfold firstIdx; rw [ht]; rfl
  have HS := Lib.hid hs
  clear hs
  go_enter Tryd.func82, Tryd.ntmps82
  go_wp2
  rw [run_callFunc_extern Tryd.func106 (by kernel_rfl) (by kernel_rfl) (by kernel_rfl) (e := Extern.BytealgIndexByte.indexByte) (by kernel_rfl), run_indexByte_string]
  simp only [Result.andThen]
  rw [Oper.upon_value, HS.out]
  go_wp2
  go_ret
  exact ⟨rfl, rfl⟩

set_option maxRecDepth 20000 in
set_option maxHeartbeats 2000000 in
theorem idxRune_high (cs : ByteArray) (hcs : cs.size = 2) (hc : ∀ i (hi : i < cs.size), (cs[i]'hi).toNat < 128) (r : Nat) (h : 128 ≤ r) (hm : r ≤ 2147483647) (w : World) : Calls Tryd.prog 63 #[.string cs, .int .i32 (r : Int)] w fun e w' => e = .returned (.int .i64 (-1)) ∧ Below w.heap.size w w' := by
  have h0 : (0 : Int) ≤ (r : Int) := by omega
  have h1 : ¬ (r : Int) < 128 := by omega
  by_cases hE : r = 65533
  · subst hE
    go_enter Tryd.func63, Tryd.ntmps63
    go_wp2_with fail
    go_loopg [5, 6] 2 (fun g _ _ wx => ∃ i : Nat, i + g = 2 ∧ wx = w.iter cs i)
    case atStart => exact ⟨0, rfl, rfl⟩
    case round =>
      obtain ⟨i, hig, rfl⟩ := hrel
      cases gk with
      | zero =>
        obtain rfl : i = 2 := by omega
        have hnx := fun ty => run_next_end (P := Tryd.prog) w cs 2 ty (by omega)
        go_wp2
        go_ret
        exact ⟨rfl, (Below.refl _ _).alloc (Nat.le_refl _) _⟩
      | succ g =>
        rcases (by omega : i = 0 ∨ i = 1) with rfl | rfl
        · have hcl : (cs[0]'(by omega)).toNat < 128 := hc 0 (by omega)
          have hnx := fun ty => run_next_ascii (P := Tryd.prog) w cs 0 ty (by omega) hcl
          have hne : (((cs[0]'(by omega)).toNat : Int) == 65533) = false := by rw [beq_eq_false_iff_ne]; omega
          go_wp2
          go_roundg g
          case measure => omega
          case rel => exact ⟨1, by omega, rfl⟩
        · have hcl : (cs[1]'(by omega)).toNat < 128 := hc 1 (by omega)
          have hnx := fun ty => run_next_ascii (P := Tryd.prog) w cs 1 ty (by omega) hcl
          have hne : (((cs[1]'(by omega)).toNat : Int) == 65533) = false := by rw [beq_eq_false_iff_ne]; omega
          go_wp2
          go_roundg g
          case measure => omega
          case rel => exact ⟨2, by omega, rfl⟩
  · have hE' : ((r : Int) == 65533) = false := by rw [beq_eq_false_iff_ne]; omega
    have HV := Lib.hid (fun u => validRune_any r u)
    cases hv : Utf8.valid r with
    | false =>
      rw [hv] at HV
      clear hv hE
      go_enter Tryd.func63, Tryd.ntmps63
      go_wp2_with (go_at_call 83; refine (HV.out _).mono ?_; rintro e w1 ⟨rfl, rfl⟩)
      go_ret
      exact ⟨rfl, Below.refl _ _⟩
    | true =>
      rw [hv] at HV
      obtain ⟨k1, k2, k3⟩ := encode_facts r hv (by omega)
      clear hE hv
      obtain ⟨rs, hen⟩ : ∃ rs, Utf8.encode (r : Int) = rs := ⟨_, rfl⟩
      simp only [hen] at k1 k2 k3
      go_enter Tryd.func63, Tryd.ntmps63
      go_wp2_with (go_at_call 83; refine (HV.out _).mono ?_; rintro e w1 ⟨rfl, rfl⟩)
      go_step3
      by_cases h3 : 2 < rs.size
      · clear k3
        rcases (by omega : rs.size = 3 ∨ rs.size = 4) with hs | hs
        · go_wp2
          go_loopw [9] (fun iv wz => iv = .int .i64 2 ∧ wz = w1) (fun _ _ => 0)
          case atStart => exact ⟨rfl, rfl⟩
          case round =>
            obtain ⟨rfl, rfl⟩ := hrel
            go_wp2
            rw [Exit.noGoto_ret]
            go_ret
            exact ⟨rfl, Below.refl _ _⟩
        · go_wp2
          go_loopw [9] (fun iv wz => iv = .int .i64 3 ∧ wz = w1) (fun _ _ => 0)
          case atStart => exact ⟨rfl, rfl⟩
          case round =>
            obtain ⟨rfl, rfl⟩ := hrel
            go_wp2
            rw [Exit.noGoto_ret]
            go_ret
            exact ⟨rfl, Below.refl _ _⟩
      · obtain hrs : rs.size = 2 := by omega
        have l1 : 1 < rs.size := by rw [hrs]; decide
        have l2 : 1 < cs.size := by omega
        have hy : 128 ≤ (rs[1]'l1).toNat := by
          have := k3 (by omega)
          simpa [hrs] using this
        have hs1 := hc 1 (by omega)
        have hy' : (((cs[1]'l2).toNat : Int) != ((rs[1]'l1).toNat : Int)) = true := by simp; omega
        have hc2 : (cs.extract 2 cs.size).size = 0 := by rw [ByteArray.size_extract]; omega
        have HB := Lib.hid (fun u => sIndexByte_none (cs.extract 2 cs.size) hc2 (rs[1]'l1) u)
        have f1 : (1 : Int) < (cs.size : Int) := by omega
        have f4 : (2 : Int) ≤ (cs.size : Int) := by omega
        have f5 : cs.size ≤ 9223372036854775807 := by omega
        have f6 : IntKind.i64.wrap 2 = 2 := by decide
        clear k1 k2 k3 hc hy hs1 hcs
        go_wp2
        go_loopw [9] (fun iv wz => iv = .int .i64 1 ∧ wz = w1) (fun _ _ => 0)
        case atStart => exact ⟨rfl, rfl⟩
        case round =>
          obtain ⟨rfl, rfl⟩ := hrel
          go_wp2
          go_step3
          go_wp2_with fail
          go_quiet (fail)
          go_wp2_with fail
          obtain ⟨W1, hW1⟩ : ∃ W1, W1 = wr.drewN nq := ⟨_, rfl⟩
          have hbW : Below wr.heap.size wr W1 := by rw [hW1]; exact ⟨rfl, rfl, rfl, Nat.le_refl _, fun _ _ => rfl⟩
          rw [← hW1]
          clear hW1
          go_quiet ((go_at_call 82; exact Calls.quiet_of_same (HB.out _)))
          go_wp2
          rw [Exit.noGoto_ret]
          go_wp2
          try rw [Exit.noGoto_ret]
          go_ret
          exact ⟨rfl, hbW.trans ⟨rfl, rfl, rfl, Nat.le_refl _, fun _ _ => rfl⟩⟩

theorem noAny_run {l cs : List UInt8} {i k : Nat} (h : Lib.NoAny l cs i) (hk : ∀ j b, i ≤ j → j < i + k → l[j]? = some b → cs.contains b = false) : Lib.NoAny l cs (i + k) := fun j b hj hb => by
  by_cases e : j < i
  · exact h j b e hb
  · exact hk j b (by omega) hj hb

open Go.Lib (iterAt_heap iterAt_other iterAt_size run_next_any_at run_next_ascii_at run_next_end_at below_iterAt)

theorem heap_new' (w : World) (o : Obj) : (w.alloc o).heap[w.heap.size]? = some o := by
  show (w.heap.push o)[w.heap.size]? = some o
  exact Array.getElem?_push_size

set_option maxRecDepth 20000 in
set_option maxHeartbeats 2000000 in
theorem idxAny_short (s cs : ByteArray) (w : World) (hcs : cs.size = 2) (hc : ∀ i (hi : i < cs.size), (cs[i]'hi).toNat < 128) (h8 : s.size ≤ 8) :
    Calls Tryd.prog 31 #[.string s, .string cs] w fun e w' => e = .returned (.int .i64 (Lib.indexAny s.data.toList cs.data.toList)) ∧ Below w.heap.size w w' := by
  have hemp : cs.toList.isEmpty = false := by
    rw [Lib.toList_data]
    cases h : cs.data.toList with
    | nil => have := Lib.size_eq cs; rw [h, List.length_nil] at this; omega
    | cons _ _ => rfl
  have hn1 : ((cs.size : Int) == 1) = false := beq_eq_false_iff_ne.2 (by omega)
  have h8z : decide ((8 : Int) < (s.size : Int)) = false := decide_eq_false (by omega)
  have HS := Lib.hid (fun n u => Any.strings_shouldUseASCIISet { Tryd.lIndexAny with } n u)
  have HA := Lib.hid (fun (r : Int) u (k0 : 0 ≤ r) (k1 : r < 128) => Any.strings_IndexRune_ascii { Tryd.lIndexAny with } cs r u k0 k1)
  have HH := Lib.hid (fun (r : Nat) (k0 : 128 ≤ r) (k1 : r ≤ 2147483647) u => idxRune_high cs hcs hc r k0 k1 u)
  have hcn : ∀ b : UInt8, 128 ≤ b.toNat → cs.data.toList.contains b = false := fun b hb => by
    rw [Bool.eq_false_iff]
    intro e
    have hm : b ∈ cs.data.toList := by simpa using e
    obtain ⟨i, hi, rfl⟩ := List.getElem_of_mem hm
    have hi2 : i < cs.size := by simpa using hi
    have := hc i hi2
    have e2 : cs.data.toList[i] = cs[i]'hi2 := by rfl
    rw [e2] at hb
    omega
  have HCN := Lib.hid hcn
  clear hcn hcs hc
  go_enter Tryd.func31, Tryd.ntmps31
  go_wp2_with (go_at_call 64; refine (HS.out _ _).mono ?_; rintro e w' ⟨rfl, hw⟩; rw [hw, h8z])
  go_loopg [9, 10] s.size (fun g _ _ wx => ∃ i : Nat, i + g = s.size ∧ wx.heap[w.heap.size]? = some (.stringIter s i) ∧ Below w.heap.size w wx ∧ Hid (Lib.NoAny s.data.toList cs.data.toList i))
  case atStart => exact ⟨0, by omega, heap_new' w _, (Below.refl _ _).alloc (Nat.le_refl _) _, Lib.hid (Lib.NoAny.zero _ _)⟩
  case round =>
    obtain ⟨i, hig, hit, hb, HN⟩ := hrel
    have hil := (Array.getElem?_eq_some_iff.1 hit).1
    have hbI : ∀ p, Below w.heap.size w (wr.iterAt w.heap.size s p) := fun p => below_iterAt hb (Nat.le_refl _) s p
    cases gk with
    | zero =>
      obtain rfl : i = s.size := by omega
      have hnx := fun ty => run_next_end_at (P := Tryd.prog) wr w.heap.size s s.size ty hit (by omega)
      have HE : Hid (Lib.indexAny s.data.toList cs.data.toList = -1) := Lib.hid (Lib.indexAny_none (by rw [← Lib.size_eq]; exact HN.out))
      clear HN hit
      go_wp2
      go_ret
      exact ⟨by rw [HE.out]; rfl, hb⟩
    | succ g =>
      have hi : i < s.size := by omega
      have hxl : s.data.toList[i]? = some (s[i]'hi) := Lib.data_getElem? s i hi
      by_cases ha : (s[i]'hi).toNat < 128
      · have hnx := fun ty => run_next_ascii_at (P := Tryd.prog) wr w.heap.size s i ty hit hi ha
        have hw2 := iterAt_heap wr w.heap.size s i (i + 1) hit
        have hb2 := hbI (i + 1)
        have hcon := Lib.contains_iff_indexByte cs.data.toList (s[i]'hi)
        have hback : (((s[i]'hi).toNat : Int)).toNat.toUInt8 = s[i]'hi := by simp
        have hA := HA.out (((s[i]'hi).toNat : Int)) (wr.iterAt w.heap.size s (i + 1)) (by omega) (by omega)
        rw [hback] at hA
        change Calls Tryd.prog 63 _ _ _ at hA
        have HA' := Lib.hid hA
        cases hin : cs.data.toList.contains (s[i]'hi) with
        | false =>
          rw [hin] at hcon
          have hlt : ¬ ((0 : Int) ≤ Lib.indexByte cs.data.toList (s[i]'hi)) := of_decide_eq_false hcon.symm
          have HN2 := Lib.hid (HN.out.succ hxl hin)
          clear hcon hA hback hxl hin HN
          generalize Lib.indexByte cs.data.toList (s[i]'hi) = r at *
          go_wp2_with (go_at_call 63; refine HA'.out.mono ?_; rintro e w' ⟨rfl, hw⟩; rw [hw])
          go_roundg g
          case measure => omega
          case rel => exact ⟨i + 1, by omega, hw2, hb2, HN2⟩
        | true =>
          rw [hin] at hcon
          have hge : (0 : Int) ≤ Lib.indexByte cs.data.toList (s[i]'hi) := of_decide_eq_true hcon.symm
          have HE := Lib.hid (Lib.indexAny_hit HN.out hxl hin)
          clear hcon hA hback hxl hin HN
          generalize Lib.indexByte cs.data.toList (s[i]'hi) = r at *
          go_wp2_with (go_at_call 63; refine HA'.out.mono ?_; rintro e w' ⟨rfl, hw⟩; rw [hw])
          go_ret
          exact ⟨by rw [HE.out]; rfl, hb2⟩
      · have hh : 128 ≤ (s[i]'hi).toNat := by omega
        have hnx := fun ty => run_next_any_at (P := Tryd.prog) wr w.heap.size s i ty hit hi
        have hd := decode_high s i hi hh
        have hdl := decode_le s i
        have hroom := decode_room s i hi hh
        have HN2 : Hid (Lib.NoAny s.data.toList cs.data.toList (i + (Utf8.decode s i).2)) := Lib.hid (noAny_run HN.out fun j b h1 h2 h3 => by
          obtain ⟨hj, hjb⟩ := decode_bytes s i hi hh (j - i) (by omega)
          have e : i + (j - i) = j := by omega
          refine HCN.out b ?_
          have h4 := Lib.data_getElem? s j (by omega)
          rw [h3] at h4
          rw [Option.some.inj h4]
          simpa [e] using hjb)
        have hw2 := iterAt_heap wr w.heap.size s i (i + (Utf8.decode s i).2) hit
        have hb2 := hbI (i + (Utf8.decode s i).2)
        have HH' := Lib.hid (HH.out (Utf8.decode s i).1 hd.1 hdl (wr.iterAt w.heap.size s (i + (Utf8.decode s i).2)))
        have hd2 := hd.2
        clear hd hdl HN hxl hh ha
        generalize (Utf8.decode s i).1 = r at *
        generalize (Utf8.decode s i).2 = d at *
        go_wp2_with (go_at_call 63; refine HH'.out.mono ?_; rintro e w2 ⟨rfl, q2⟩)
        go_roundg (s.size - (i + d))
        case measure => omega
        case rel => exact ⟨i + d, by omega, (q2.block w.heap.size (by rw [iterAt_size]; exact hil)).trans hw2, hb2.trans (q2.mono hb2.size), HN2⟩

theorem asciiSet_info : (Tryd.prog.info? (Tryd.lIndexAny_ren.t 116)).map (fun i => (i.zero, i.size)) = some (some (.agg (Array.replicate 256 (.bool false))), 256) := by kernel_rfl

/-- strings.IndexAny, of any bytes, of two ASCII ones. -/
theorem idxAny_any (s cs : ByteArray) (w : World) (hcs : cs.size = 2) (hc : ∀ i (hi : i < cs.size), (cs[i]'hi).toNat < 128) (hs : s.size < 4294967281) :
    Calls Tryd.prog 31 #[.string s, .string cs] w fun e w' => e = .returned (.int .i64 (Lib.indexAny s.data.toList cs.data.toList)) ∧ Below w.heap.size w w' := by
  by_cases h8 : s.size ≤ 8
  · exact idxAny_short s cs w hcs hc h8
  · refine (Any.strings_IndexAny_long Tryd.lIndexAny (zero_of_info asciiSet_info).1 (zero_of_info asciiSet_info).2 s cs w (by omega) (by omega) hs (by omega) ?_).mono fun e w' ⟨h1, h2⟩ => ⟨h1, ?_⟩
    · intro j b hj
      obtain ⟨hj2, rfl⟩ := List.getElem?_eq_some_iff.1 hj
      have hi2 : j < cs.size := by simpa using hj2
      exact hc j hi2
    · rw [h2]
      exact ((Below.refl _ _).alloc (Nat.le_refl _) _).alloc (by simp) _

end Go.Proofs.YtbkejafjlapmnaaDoor
