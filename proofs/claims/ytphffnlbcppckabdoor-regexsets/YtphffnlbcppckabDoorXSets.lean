/-
  The walk of RegexSets.
-/
import Derived.Test.YtphffnlbcppckabDoorXBoth
namespace Go.Proofs.YtphffnlbcppckabDoor
open Go.RowKit

/-- The letter of a byte. -/
def lett (x : UInt8) : UInt8 := UInt8.ofNat (97 + x.toNat % 26)
theorem lett_nat (x : UInt8) : (lett x).toNat = 97 + x.toNat % 26 := by
  unfold lett
  rw [UInt8.toNat_ofNat']
  omega
theorem lett_letter (x : UInt8) : Letter (lett x) := by
  unfold Letter
  rw [lett_nat]
  omega

/-- Bytes that came in. -/
def BytesIn (w : World) (a : Option Addr) (l : List UInt8) : Prop := ∀ i (hi : i < l.length), ∃ q, a = some q ∧ w.cell? (q.add i) = some (.int .u8 (l[i].toNat : Int))
theorem BytesIn.below {w w' : World} {a : Option Addr} {l : List UInt8} (h : BytesIn w a l) (hb : Below w.heap.size w w') : BytesIn w' a l := fun i hi => by
  obtain ⟨q, rfl, hc⟩ := h i hi
  exact ⟨q, rfl, by rw [hb.cell (p := q.add i) (World.block_lt_of_cell? w _ hc)]; exact hc⟩

theorem conv_one (W : World) (x : UInt8) (z : Int) (hz : z = (x.toNat : Int)) : (convert 29 9 (.slice (some ⟨W.heap.size, 0, none⟩) 1 1)).run Tryd.prog (W.alloc (.cells #[.int .u8 z] 5)) = .ok (.string ⟨#[x]⟩) (W.alloc (.cells #[.int .u8 z] 5)) := by
  subst hz
  exact run_convert_bytes_back (P := Tryd.prog) _ 29 9 5 ⟨W.heap.size, 0, none⟩ 1 [x] Tryd.underlying29 Tryd.underlying5 Tryd.underlying9 (fun j hj => by
    have hj0 : j = 0 := by simp at hj; exact hj
    subst hj0
    exact cell_one_new W _ 5 0 _ rfl)
theorem conv_two (W : World) (x : UInt8) : (convert 29 9 (.slice (some ⟨W.heap.size, 0, none⟩) 2 2)).run Tryd.prog (W.alloc (.cells #[.int .u8 (x.toNat : Int), .int .u8 (x.toNat : Int)] 5)) = .ok (.string ⟨#[x, x]⟩) (W.alloc (.cells #[.int .u8 (x.toNat : Int), .int .u8 (x.toNat : Int)] 5)) := by
  exact run_convert_bytes_back (P := Tryd.prog) _ 29 9 5 ⟨W.heap.size, 0, none⟩ 2 [x, x] Tryd.underlying29 Tryd.underlying5 Tryd.underlying9 (fun j hj => by
    rw [Go.WideShapes.add_plain, cell_heap (heap_new W _)]
    match j, hj with
    | 0, _ => rfl
    | 1, _ => rfl)

theorem letters_snoc (l : List UInt8) (k : Nat) (h : k < l.length) : (l.take (k + 1)).map lett = (l.take k).map lett ++ [lett l[k]] := by
  rw [List.take_succ_eq_append_getElem h, List.map_append]; rfl

theorem like_bool (s t : ByteArray) (w : World) (hs : s.size ≤ 64) (htab : TabW w) (A : Lang) (ho : pParse s.data.toList = some A) (hts : t.size ≤ 9223372036854775807) (b : Bool) (hb : b = true ↔ A t.data.toList) :
    Calls Tryd.prog 8 #[.string s, .string t] w fun e w' => e = .returned (.tuple #[.bool b, .int .i64 0]) ∧ Below w.heap.size w w' :=
  (like_good s t w hs htab A ho hts).mono fun e w' ⟨⟨c, h1, h2⟩, h3⟩ => ⟨by
    obtain rfl : c = b := by rw [Bool.eq_iff_iff, h2, hb]
    exact h1, h3⟩

set_option maxRecDepth 20000 in
set_option maxHeartbeats 4000000 in
theorem sets_walk (a : Option Addr) (cp : Nat) (l : List UInt8) (c : UInt8) (w : World) (hat : BytesIn w a l) (hll : l.length ≤ 9223372036854775807) (htab : TabW w) : Calls Tryd.prog 4 #[.slice a l.length cp, .int .u8 c.toNat] w fun e w' => e = .returned (.bool true) ∧ Below w.heap.size w w' := by
  have htl := htab.lt
  go_enter Tryd.func4, Tryd.ntmps4
  go_wp2
  go_loopw [5, 6, 7] (fun p m i wr => ∃ (k : Nat) (ps : ByteArray) (b : Bool), k ≤ l.length ∧ k ≤ 12 ∧ i = .int .i64 k ∧ p = .string ps ∧ m = .bool b ∧ Hid (ps.data.toList = (l.take k).map lett) ∧ Hid (b = true ↔ c ∈ (l.take k).map lett) ∧ Below w.heap.size w wr) (fun _ _ i _ => 12 - (intOf i).toNat)
  case atStart => exact ⟨0, ⟨#[]⟩, false, by omega, by omega, rfl, rfl, rfl, Lib.hid rfl, Lib.hid ⟨(fun h => by cases h), (fun h => by cases h)⟩, Below.refl _ _⟩
  case round =>
    obtain ⟨k, ps, b, hk1, hk2, rfl, rfl, rfl, HP, HB, hb⟩ := hrel
    have htr := htab.on hb htl
    have hps : ps.size ≤ 12 := by
      have : ps.data.toList.length ≤ 12 := by rw [HP.out, List.length_map, List.length_take]; omega
      simpa using this
    by_cases hlt : k < l.length ∧ k < 12
    · obtain ⟨hl1, hl2⟩ := hlt
      have hi1 : (k : Int) < (l.length : Int) := by omega
      have hi2 : (k : Int) < 12 := by omega
      obtain ⟨q, rfl, hc⟩ := (hat.below hb) k hl1
      have HN := Lib.hid (letters_snoc l k hl1)
      have hx8 := l[k].toNat_lt
      generalize hxe : l[k] = x at *
      have hx9 : (x.toNat : Int) < 256 := by omega
      go_wp2_with fail
      have hz : (97 + (x.toNat : Int) % 26) = ((lett x).toNat : Int) := by rw [lett_nat]; omega
      rw [hz]
      generalize lett x = y at *
      clear hz
      rw [conv_one wr y _ rfl]
      have hbs := hb.size
      have e1 : (ps ++ ⟨#[y]⟩).data.toList = (l.take (k + 1)).map lett := by rw [app_list, HP.out, HN.out]
      by_cases hyc : y = c
      · subst hyc
        have e2 : true = true ↔ y ∈ (l.take (k + 1)).map lett := by rw [HN.out]; simp
        cases b
        all_goals
          go_wp2
          exact ⟨⟨k + 1, _, _, by omega, by omega, by go_num, rfl, rfl, Lib.hid e1, Lib.hid e2, hb.alloc hbs _⟩, by simp [intOf]; omega⟩
      · have hn2 : ¬ y.toNat = c.toNat := fun e => hyc (UInt8.toNat_inj.1 e)
        have hn1 : ¬ (y.toNat : Int) = (c.toNat : Int) := by omega
        have e2 : b = true ↔ c ∈ (l.take (k + 1)).map lett := by rw [HN.out, List.mem_append, List.mem_singleton, HB.out]; exact ⟨.inl, fun h => h.elim id fun h => absurd h.symm hyc⟩
        cases b
        all_goals
          go_wp2
          exact ⟨⟨k + 1, _, _, by omega, by omega, by go_num, rfl, rfl, Lib.hid e1, Lib.hid (by first | exact e2 | (rw [beq_eq_false_iff_ne.2 hn1]; exact e2)), hb.alloc hbs _⟩, by simp [intOf]; omega⟩
    · have HL : Hid (∀ d ∈ ps.data.toList, Letter d) := Lib.hid (by
        rw [HP.out]
        intro d hd
        obtain ⟨z, _, rfl⟩ := List.mem_map.1 hd
        exact lett_letter z)
      rw [← HP.out] at HB
      clear HP
      have HF : Hid (b = true ↔ c ∈ ps.data.toList) := HB
      have hbs := hb.size
      have hse : ps.toList.isEmpty = true ↔ ps.data.toList = [] := by rw [ByteArray.toList_eq, List.isEmpty_iff]
      have hlt1 : (k : Int) < (l.length : Int) → ¬ (k : Int) < 12 := fun h1 h2 => hlt ⟨by omega, by omega⟩
      by_cases hz : ps.data.toList = []
      · have hz2 := hse.2 hz
        have HA := Lib.hid (awake_any wr htr)
        clear hse hz
        by_cases hi1 : (k : Int) < (l.length : Int)
        · have hi2 := hlt1 hi1
          clear hlt1 hlt
          go_wp2_with (go_at_call 5; refine HA.out.mono ?_; rintro e w1 ⟨rfl, hb1⟩)
          go_ret
          exact ⟨rfl, hb.trans (hb1.mono hbs)⟩
        · clear hlt1 hlt
          go_wp2_with (go_at_call 5; refine HA.out.mono ?_; rintro e w1 ⟨rfl, hb1⟩)
          go_ret
          exact ⟨rfl, hb.trans (hb1.mono hbs)⟩
      · have hz2 : ps.toList.isEmpty = false := Bool.eq_false_iff.2 fun h => hz (hse.1 h)
        obtain ⟨⟨A, hA1, hA2⟩, C, hC1, hC2⟩ := parse_letters hz HL.out
        have H1 := Lib.hid (fun u (hu : TabW u) => like_bool (⟨#[91]⟩ ++ ps ++ ⟨#[93]⟩) ⟨#[c]⟩ u (by simp [ByteArray.size_append, ba_size]; omega) hu A (by simp only [app_list, List.append_assoc]; exact hA1) (by simp [ba_size]) b (by
          rw [hA2, HF.out]
          exact ⟨fun h => ⟨c, rfl, h⟩, fun ⟨d, h1, h2⟩ => by cases h1; exact h2⟩))
        have H2 := Lib.hid (fun u (hu : TabW u) => like_bool (⟨#[91, 94]⟩ ++ ps ++ ⟨#[93]⟩) ⟨#[c]⟩ u (by simp [ByteArray.size_append, ba_size]; omega) hu C (by simp only [app_list, List.append_assoc]; exact hC1) (by simp [ba_size]) (!b) (by
          rw [hC2, Bool.not_eq_true', ← Bool.not_eq_true, HF.out]
          exact ⟨fun h => ⟨c, rfl, h⟩, fun ⟨d, h1, h2⟩ => by cases h1; exact h2⟩))
        have H3 := Lib.hid (fun u (hu : TabW u) => like_bool (⟨#[91]⟩ ++ ps ++ ⟨#[93]⟩) ⟨#[c, c]⟩ u (by simp [ByteArray.size_append, ba_size]; omega) hu A (by simp only [app_list, List.append_assoc]; exact hA1) (by simp [ba_size]) false (by
          rw [hA2]
          exact ⟨(fun h => by cases h), fun ⟨d, h1, h2⟩ => by cases h1⟩))
        clear hA1 hA2 hC1 hC2 HF HB HL hse hz
        have kc := fun W => conv_one W c _ rfl
        have kc2 := fun W => conv_two W c
        by_cases hi1 : (k : Int) < (l.length : Int)
        · have hi2 := hlt1 hi1
          clear hlt1 hlt
          go_wp2_with (go_at_call 8; refine (H1.out _ (htab.on (hb.alloc hbs _) htl)).mono ?_; rintro e w1 ⟨rfl, q1⟩; refine Hid.out ?_)
          refine Lib.hid ?_
          have b1 := (hb.alloc hbs _).trans (q1.mono (hb.alloc hbs _).size)
          have s1 := b1.size
          clear q1
          go_wp2_with (go_at_call 8; refine (H2.out _ (htab.on (b1.alloc s1 _) htl)).mono ?_; rintro e w2 ⟨rfl, q2⟩; refine Hid.out ?_)
          refine Lib.hid ?_
          have b2 := (b1.alloc s1 _).trans (q2.mono (b1.alloc s1 _).size)
          have s2 := b2.size
          clear q2 b1 s1
          go_wp2_with (go_at_call 8; refine (H3.out _ (htab.on (b2.alloc s2 _) htl)).mono ?_; rintro e w3 ⟨rfl, q3⟩; refine Hid.out ?_)
          refine Lib.hid ?_
          have b3 := (b2.alloc s2 _).trans (q3.mono (b2.alloc s2 _).size)
          have s3 := b3.size
          clear q3 b2 s2 kc kc2 H1 H2 H3
          have HA := Lib.hid (awake_any w3 (htab.on b3 htl))
          cases b
          all_goals
            go_wp2_with (go_at_call 5; refine HA.out.mono ?_; rintro e w4 ⟨rfl, q4⟩)
            go_ret
            exact ⟨rfl, b3.trans (q4.mono s3)⟩
        · clear hlt1 hlt
          go_wp2_with (go_at_call 8; refine (H1.out _ (htab.on (hb.alloc hbs _) htl)).mono ?_; rintro e w1 ⟨rfl, q1⟩; refine Hid.out ?_)
          refine Lib.hid ?_
          have b1 := (hb.alloc hbs _).trans (q1.mono (hb.alloc hbs _).size)
          have s1 := b1.size
          clear q1
          go_wp2_with (go_at_call 8; refine (H2.out _ (htab.on (b1.alloc s1 _) htl)).mono ?_; rintro e w2 ⟨rfl, q2⟩; refine Hid.out ?_)
          refine Lib.hid ?_
          have b2 := (b1.alloc s1 _).trans (q2.mono (b1.alloc s1 _).size)
          have s2 := b2.size
          clear q2 b1 s1
          go_wp2_with (go_at_call 8; refine (H3.out _ (htab.on (b2.alloc s2 _) htl)).mono ?_; rintro e w3 ⟨rfl, q3⟩; refine Hid.out ?_)
          refine Lib.hid ?_
          have b3 := (b2.alloc s2 _).trans (q3.mono (b2.alloc s2 _).size)
          have s3 := b3.size
          clear q3 b2 s2 kc kc2 H1 H2 H3
          have HA := Lib.hid (awake_any w3 (htab.on b3 htl))
          cases b
          all_goals
            go_wp2_with (go_at_call 5; refine HA.out.mono ?_; rintro e w4 ⟨rfl, q4⟩)
            go_ret
            exact ⟨rfl, b3.trans (q4.mono s3)⟩

end Go.Proofs.YtphffnlbcppckabDoor
