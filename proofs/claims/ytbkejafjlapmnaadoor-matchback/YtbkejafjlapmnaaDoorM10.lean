/-
  What Read of package match makes of a text. A matcher and its text, plainly: what is read from a text, and a matcher's text read. Which matcher a text is read as: the one that may be and has that text, a pattern first.
-/
import Derived.Test.YtbkejafjlapmnaaDoorM8
import Derived.Test.YtbkejafjlapmnaaDoorM3
import Derived.Shelf.Small.Wraps
namespace Go.Proofs.YtbkejafjlapmnaaDoor
open Go.RowKit Go.Shelf

/-- The two bytes that a sign may begin with. -/
def eqBang : ByteArray := ⟨#[61, 33]⟩
/-- What is left of a text behind another, and whether it begins with that. -/
def cutV (p q : ByteArray) : ByteArray := ⟨(Lib.trimPrefix p.data.toList q.data.toList).toArray⟩
def cutB (p q : ByteArray) : Bool := Lib.hasPrefix p.data.toList q.data.toList
theorem cut_any (p q : ByteArray) (w : World) : Calls Tryd.prog 32 #[.string p, .string q] w fun e w' => e = .returned (.tuple #[.string (cutV p q), .bool (cutB p q)]) ∧ w' = w :=
  Any.strings_CutPrefix Tryd.lCutPrefix p q w
/-- The matcher of a text whose name ends at k, with the comparison o. -/
def rdM (s : ByteArray) (k o : Nat) : Mt := (s.extract 0 k, o, cutV (s.extract k s.size) (signL o))
/-- It stands there and may be. -/
def rdOk (s : ByteArray) (k o : Nat) : Prop := cutB (s.extract k s.size) (signL o) = true ∧ mErr (rdM s k o) = 0

theorem eqBang_any (s : ByteArray) (w : World) (hs : s.size < 4294967281) :
    Calls Tryd.prog 31 #[.string s, .string eqBang] w fun e w' => e = .returned (.int .i64 (Lib.indexAny s.data.toList eqBang.data.toList)) ∧ Below w.heap.size w w' :=
  idxAny_any s eqBang w rfl (by intro i hi; have : i < 2 := hi; rcases (by omega : i = 0 ∨ i = 1) with rfl | rfl; exact (by decide : (61 : UInt8).toNat < 128); exact (by decide : (33 : UInt8).toNat < 128)) hs

/-- The comparisons in the order in which they are tried. -/
def opAt (i : Nat) : Nat := if i = 0 then 2 else if i = 1 then 3 else if i = 2 then 0 else 1
/-- What Read tells of a text whose first = or ! stands at k. -/
def RdTells (s : ByteArray) (k : Nat) (e : Ending) : Prop :=
  (∃ i, i < 4 ∧ (∀ j, j < i → ¬ rdOk s k (opAt j)) ∧ rdOk s k (opAt i) ∧ e = .returned (.tuple #[.agg #[.string (rdM s k (opAt i)).1, .int .u8 ((rdM s k (opAt i)).2.1 : Int), .string (rdM s k (opAt i)).2.2], .int .i64 0])) ∨
  ((∀ j, j < 4 → ¬ rdOk s k (opAt j)) ∧ e = .returned (.tuple #[.agg #[.string ⟨#[]⟩, .int .u8 0, .string ⟨#[]⟩], .int .i64 4]))

theorem ops_under : Tryd.prog.underlying 62 = some (.array 4 22) := by kernel_rfl
theorem ops_at (i : Nat) (z : Int) (hz : z = (i : Int)) (hi : i < 4) (w : World) : (Instr.index 62 (.agg #[.int .u8 2, .int .u8 3, .int .u8 0, .int .u8 1]) (.int .i64 z)).run Tryd.prog w = .ok (.int .u8 (opAt i : Int)) w := by
  subst hz
  rcases (by omega : i = 0 ∨ i = 1 ∨ i = 2 ∨ i = 3) with rfl | rfl | rfl | rfl <;> simp [Instr.index, run_underlying ops_under, asIntOf, part, opAt, go_sem]

set_option maxRecDepth 20000 in
set_option maxHeartbeats 2000000 in
theorem mRead_any (s : ByteArray) (w : World) (htab : TabW w) (hs : s.size < 4294967281) (k : Nat) (hk : Lib.indexAny s.data.toList eqBang.data.toList = k) (hks : k < s.size) :
    Calls Tryd.prog 10 #[.string s] w fun e w' => RdTells s k e ∧ Below w.heap.size w w' := by
  have HI := Lib.hid (fun u => eqBang_any s u hs)
  rw [hk] at HI
  have HC := Lib.hid (fun n o v u (hu : TabW u) => mCheck_any n o v u hu)
  have HS := Lib.hid (fun o u => msign_any o u)
  have HP := Lib.hid (fun p q u => cut_any p q u)
  have htl := htab.lt
  have hbA := Lib.hid (fun (o : Obj) => (Below.refl w.heap.size w).alloc (Nat.le_refl _) o)
  have hk1 : (k : Int) ≤ (s.size : Int) := by omega
  clear hk
  go_enter Tryd.func10, Tryd.ntmps10
  go_wp2_with (go_at_call 31; refine (HI.out _).mono ?_; rintro e w1 ⟨rfl, hb1⟩; refine Hid.out ?_)
  refine Lib.hid ?_
  have hb2 : Below w.heap.size w w1 := (hbA.out _).trans (hb1.mono (by simp))
  have hm1 := (hb1.block w.heap.size (by simp)).trans (heap_new' w _)
  clear hb1 hbA
  go_wp2
  go_loopw [16] (fun i wr => ∃ n : Nat, n ≤ 4 ∧ i = .int .i64 n ∧ Below w.heap.size w wr ∧ wr.heap[w.heap.size]? = some (.cells #[.string ⟨#[]⟩, .int .u8 0, .string ⟨#[]⟩] 24) ∧ Hid (∀ j, j < n → ¬ rdOk s k (opAt j))) (fun i _ => 4 - (intOf i).toNat)
  case atStart => exact ⟨0, Nat.zero_le _, rfl, hb2, hm1, Lib.hid fun j hj => absurd hj (Nat.not_lt_zero _)⟩
  case round =>
    obtain ⟨n, hn, rfl, hb, hm, HN⟩ := hrel
    have HT := Lib.hid (htab.on hb htl)
    have c0 : wr.cell? ⟨w.heap.size, 0, none⟩ = some (.string ⟨#[]⟩) := by simp [World.cell?, hm]
    have c1 : wr.cell? ⟨w.heap.size, 1, none⟩ = some (.int .u8 0) := by simp [World.cell?, hm]
    have c2 : wr.cell? ⟨w.heap.size, 2, none⟩ = some (.string ⟨#[]⟩) := by simp [World.cell?, hm]
    have f0 : wr.frozen? ⟨w.heap.size, 0, none⟩ = false := by simp [World.frozen?, hm]
    have f1 : wr.frozen? ⟨w.heap.size, 1, none⟩ = false := by simp [World.frozen?, hm]
    have f2 : wr.frozen? ⟨w.heap.size, 2, none⟩ = false := by simp [World.frozen?, hm]
    clear hb2 hm1
    by_cases h4 : n = 4
    · have hlt : ¬ ((n : Int) < 4) := by omega
      have HN4 : Hid (∀ j, j < 4 → ¬ rdOk s k (opAt j)) := by rw [h4] at HN; exact HN
      clear h4 hn HN
      go_wp2
      exact bodyPost_ret (v := .tuple #[.agg #[.string ⟨#[]⟩, .int .u8 0, .string ⟨#[]⟩], .int .i64 4]) (by simp [results, Tryd.results10, go_sem, c0, c1, c2]) rfl ⟨Or.inr ⟨HN4.out, rfl⟩, ((hb.setCell (by simp) _).setCell (by simp) _).setCell (by simp) _⟩
    · have hlt : (n : Int) < 4 := by omega
      have hix := ops_at n n rfl (by omega)
      have HN4 := Lib.hid h4
      clear h4 hn
      generalize ho : opAt n = o at hix
      have HO := Lib.hid ho
      clear ho
      go_wp2_with fail
      go_quiet (first
        | (go_at_call 33; exact Calls.quiet_of_same (HS.out _ _))
        | (go_at_call 32; exact Calls.quiet_of_same (HP.out _ _ _)))
      have hb2 : Below w.heap.size w (wr.drewN nq) := below_drewN hb _
      have hm2 : (wr.drewN nq).heap[w.heap.size]? = some (.cells #[.string ⟨#[]⟩, .int .u8 0, .string ⟨#[]⟩] 24) := hm
      clear hb hm c0 c1 c2 f0 f1 f2 HT
      generalize wr.drewN nq = w2 at *
      clear wr
      have hsz := (Array.getElem?_eq_some_iff.1 hm2).1
      have hbN := Lib.hid (fun (o : Obj) => hb2.alloc (Nat.le_of_lt hsz) o)
      have hmN := Lib.hid (fun (o : Obj) => (((Below.refl w2.heap.size w2).alloc (Nat.le_refl _) o).block w.heap.size hsz).trans hm2)
      have HT := Lib.hid (fun (o : Obj) => htab.on (hbN.out o) htl)
      clear hb2 hm2
      cases hB : cutB (s.extract k s.size) (signL o) with
      | false =>
        have HR := Lib.hid (upto_succ HN.out (fun h => by rw [HO.out] at h; rw [h.1] at hB; cases hB))
        go_wp2
        go_roundw
        case rel => exact ⟨n + 1, by omega, by go_num, hbN.out _, hmN.out _, HR⟩
        case measure => show 4 - ((n : Int) + 1).toNat < 4 - (n : Int).toNat; omega
      | true =>
        have HC1 := Lib.hid (fun u => HC.out (s.extract 0 k) o (cutV (s.extract k s.size) (signL o)) u)
        clear HC
        by_cases hE : mErr (s.extract 0 k, o, cutV (s.extract k s.size) (signL o)) = 0
        · have HY : Hid (rdOk s k (opAt n)) := Lib.hid (by rw [HO.out]; exact ⟨hB, hE⟩)
          rw [hE] at HC1
          clear hE hB
          go_wp2_with (go_at_call 15; refine (HC1.out _ (HT.out _)).mono ?_; rintro e w3 ⟨rfl, hb3⟩; refine Hid.out ?_)
          refine Lib.hid ?_
          have hb4 := (hbN.out _).trans (hb3.mono (by simp; omega))
          have hm4 := (hb3.block w.heap.size (by simp; omega)).trans (hmN.out _)
          have hx4 := (hb3.block w2.heap.size (by simp)).trans (heap_new' w2 _)
          have hne : w.heap.size ≠ w2.heap.size := by omega
          have c0 : w3.cell? ⟨w.heap.size, 0, none⟩ = some (.string ⟨#[]⟩) := by simp [World.cell?, hm4]
          have c1 : w3.cell? ⟨w.heap.size, 1, none⟩ = some (.int .u8 0) := by simp [World.cell?, hm4]
          have c2 : w3.cell? ⟨w.heap.size, 2, none⟩ = some (.string ⟨#[]⟩) := by simp [World.cell?, hm4]
          have f0 : w3.frozen? ⟨w.heap.size, 0, none⟩ = false := by simp [World.frozen?, hm4]
          have f1 : w3.frozen? ⟨w.heap.size, 1, none⟩ = false := by simp [World.frozen?, hm4]
          have f2 : w3.frozen? ⟨w.heap.size, 2, none⟩ = false := by simp [World.frozen?, hm4]
          have d0 : w3.cell? ⟨w2.heap.size, 0, none⟩ = some (.string (s.extract 0 k)) := by simp [World.cell?, hx4]
          have d1 : w3.cell? ⟨w2.heap.size, 1, none⟩ = some (.int .u8 (o : Int)) := by simp [World.cell?, hx4]
          have d2 : w3.cell? ⟨w2.heap.size, 2, none⟩ = some (.string (cutV (s.extract k s.size) (signL o))) := by simp [World.cell?, hx4]
          clear hb3 hm4 hx4
          go_wp2
          refine bodyPost_ret (v := .tuple #[.agg #[.string (s.extract 0 k), .int .u8 (o : Int), .string (cutV (s.extract k s.size) (signL o))], .int .i64 0]) (by simp [results, Tryd.results10, go_sem, c0, c1, c2]) rfl ⟨Or.inl ⟨n, by omega, HN.out, HY.out, ?_⟩, ((hb4.setCell (by simp) _).setCell (by simp) _).setCell (by simp) _⟩
          rw [HO.out]
          rfl
        · have HR := Lib.hid (upto_succ HN.out (fun h => by rw [HO.out] at h; exact hE h.2))
          generalize mErr (s.extract 0 k, o, cutV (s.extract k s.size) (signL o)) = E at *
          go_wp2_with (go_at_call 15; refine (HC1.out _ (HT.out _)).mono ?_; rintro e w3 ⟨rfl, hb3⟩; refine Hid.out ?_)
          refine Lib.hid ?_
          have hb4 := (hbN.out _).trans (hb3.mono (by simp; omega))
          have hm4 := (hb3.block w.heap.size (by simp; omega)).trans (hmN.out _)
          clear hb3
          go_wp2
          go_roundw
          case rel => exact ⟨n + 1, by omega, by go_num, hb4, hm4, HR⟩
          case measure => show 4 - ((n : Int) + 1).toNat < 4 - (n : Int).toNat; omega

set_option maxRecDepth 20000 in
set_option maxHeartbeats 1000000 in
theorem mRead_none (s : ByteArray) (w : World) (hs : s.size < 4294967281) (hk : Lib.indexAny s.data.toList eqBang.data.toList = -1) :
    Calls Tryd.prog 10 #[.string s] w fun e w' => e = .returned (.tuple #[.agg #[.string ⟨#[]⟩, .int .u8 0, .string ⟨#[]⟩], .int .i64 4]) ∧ Below w.heap.size w w' := by
  have HI := Lib.hid (fun u => eqBang_any s u hs)
  rw [hk] at HI
  have hbA := Lib.hid (fun (o : Obj) => (Below.refl w.heap.size w).alloc (Nat.le_refl _) o)
  clear hk
  go_enter Tryd.func10, Tryd.ntmps10
  go_wp2_with (go_at_call 31; refine (HI.out _).mono ?_; rintro e w1 ⟨rfl, hb1⟩; refine Hid.out ?_)
  refine Lib.hid ?_
  have hb2 : Below w.heap.size w w1 := (hbA.out _).trans (hb1.mono (by simp))
  have hm := (hb1.block w.heap.size (by simp)).trans (heap_new' w _)
  have c0 : w1.cell? ⟨w.heap.size, 0, none⟩ = some (.string ⟨#[]⟩) := by simp [World.cell?, hm]
  have c1 : w1.cell? ⟨w.heap.size, 1, none⟩ = some (.int .u8 0) := by simp [World.cell?, hm]
  have c2 : w1.cell? ⟨w.heap.size, 2, none⟩ = some (.string ⟨#[]⟩) := by simp [World.cell?, hm]
  have f0 : w1.frozen? ⟨w.heap.size, 0, none⟩ = false := by simp [World.frozen?, hm]
  have f1 : w1.frozen? ⟨w.heap.size, 1, none⟩ = false := by simp [World.frozen?, hm]
  have f2 : w1.frozen? ⟨w.heap.size, 2, none⟩ = false := by simp [World.frozen?, hm]
  clear hb1 hbA hm
  go_wp2
  exact bodyPost_ret (v := .tuple #[.agg #[.string ⟨#[]⟩, .int .u8 0, .string ⟨#[]⟩], .int .i64 4]) (by simp [results, Tryd.results10, go_sem, c0, c1, c2]) rfl ⟨rfl, ((hb2.setCell (by simp) _).setCell (by simp) _).setCell (by simp) _⟩


theorem data_ext {a b : ByteArray} (h : a.data.toList = b.data.toList) : a = b := by
  obtain ⟨⟨x⟩⟩ := a
  obtain ⟨⟨y⟩⟩ := b
  obtain rfl : x = y := h
  rfl
theorem data_app (a b : ByteArray) : (a ++ b).data.toList = a.data.toList ++ b.data.toList := by simp
theorem cutB_iff (p q : ByteArray) : cutB p q = true ↔ ∃ r, p.data.toList = q.data.toList ++ r := by
  unfold cutB Lib.hasPrefix
  rw [List.isPrefixOf_iff_prefix]
  exact ⟨fun ⟨r, h⟩ => ⟨r, h.symm⟩, fun ⟨r, h⟩ => ⟨r, h.symm⟩⟩
theorem cutV_data {p q : ByteArray} {r : List UInt8} (h : p.data.toList = q.data.toList ++ r) : (cutV p q).data.toList = r := by
  have hb : Lib.hasPrefix p.data.toList q.data.toList = true := (cutB_iff p q).2 ⟨r, h⟩
  show (Lib.trimPrefix p.data.toList q.data.toList) = r
  unfold Lib.trimPrefix
  rw [if_pos hb, h]
  simp
theorem text_data (m : Mt) : (textM m).data.toList = m.1.data.toList ++ ((signL m.2.1).data.toList ++ m.2.2.data.toList) := by
  unfold textM
  rw [data_app, data_app, List.append_assoc]
theorem text_size (m : Mt) : (textM m).size = m.1.size + ((signL m.2.1).size + m.2.2.size) := by
  have h := congrArg List.length (text_data m)
  rw [List.length_append, List.length_append, ← Lib.size_eq, ← Lib.size_eq, ← Lib.size_eq, ← Lib.size_eq] at h
  exact h

/-- What is read from a text has that text. -/
theorem rd_text {s : ByteArray} {k o : Nat} (h : cutB (s.extract k s.size) (signL o) = true) : textM (rdM s k o) = s := by
  obtain ⟨r, hr⟩ := (cutB_iff _ _).1 h
  refine data_ext ?_
  rw [text_data]
  show (s.extract 0 k).data.toList ++ ((signL o).data.toList ++ (cutV (s.extract k s.size) (signL o)).data.toList) = _
  rw [cutV_data hr, ← hr, Lib.extract_data, Lib.extract_data]
  have h2 : List.take (s.size - k) (List.drop k s.data.toList) = List.drop k s.data.toList := List.take_of_length_le (by rw [List.length_drop, Lib.size_eq]; exact Nat.le_refl _)
  rw [h2]
  simp

/-- A name has neither = nor !. -/
theorem name_no {n : ByteArray} (h : NameOk n) (j : Nat) (b : UInt8) (hb : n.data.toList[j]? = some b) : eqBang.data.toList.contains b = false := by
  obtain ⟨hj, rfl⟩ := List.getElem?_eq_some_iff.1 hb
  have hj2 : j < n.size := by simpa using hj
  have h1 := h.2.2 j hj2
  have e : byteN n j = (n.data.toList[j]'hj).toNat := by simp [byteN, hj2]; try rfl
  rw [e] at h1
  show [(61 : UInt8), 33].contains _ = false
  rw [Bool.eq_false_iff]
  intro hc
  have hm : n.data.toList[j]'hj = 61 ∨ n.data.toList[j]'hj = 33 := by simpa using hc
  rcases hm with hm | hm <;> (rw [hm] at h1; revert h1; decide)

/-- The first byte of a sign is = or !. -/
theorem sign_first (o : Nat) (ho : o ≤ 3) : ∃ b r, (signL o).data.toList = b :: r ∧ eqBang.data.toList.contains b = true := by
  rcases (by omega : o = 0 ∨ o = 1 ∨ o = 2 ∨ o = 3) with rfl | rfl | rfl | rfl
  · exact ⟨61, [], rfl, rfl⟩
  · exact ⟨33, [61], rfl, rfl⟩
  · exact ⟨61, [126], rfl, rfl⟩
  · exact ⟨33, [126], rfl, rfl⟩

theorem text_index {m : Mt} (hn : NameOk m.1) (ho : m.2.1 ≤ 3) : Lib.indexAny (textM m).data.toList eqBang.data.toList = (m.1.size : Int) := by
  obtain ⟨b, r, hs, hb⟩ := sign_first m.2.1 ho
  refine Lib.indexAny_hit (x := b) ?_ ?_ hb
  · intro j c hj hc
    rw [text_data, List.getElem?_append_left (by rw [← Lib.size_eq]; exact hj)] at hc
    exact name_no hn j c hc
  · rw [text_data, List.getElem?_append_right (by rw [← Lib.size_eq]; exact Nat.le_refl _), ← Lib.size_eq, Nat.sub_self, hs]
    rfl

theorem rd_back (m : Mt) : rdM (textM m) m.1.size m.2.1 = m ∧ cutB ((textM m).extract m.1.size (textM m).size) (signL m.2.1) = true := by
  have h1 : ((textM m).extract m.1.size (textM m).size).data.toList = (signL m.2.1).data.toList ++ m.2.2.data.toList := by
    rw [Lib.extract_data, text_data, Lib.size_eq m.1, List.drop_left]
    refine List.take_of_length_le ?_
    rw [text_size, Lib.size_eq m.1, List.length_append, ← Lib.size_eq, ← Lib.size_eq]
    omega
  refine ⟨?_, (cutB_iff _ _).2 ⟨_, h1⟩⟩
  obtain ⟨n, o, v⟩ := m
  have h2 : (textM (n, o, v)).extract 0 n.size = n := data_ext (by rw [Lib.extract_data, text_data, Lib.size_eq n]; simp)
  have h3 : cutV ((textM (n, o, v)).extract n.size (textM (n, o, v)).size) (signL o) = v := data_ext (cutV_data h1)
  show (_, _, _) = _
  rw [h2, h3]


/-- A text is read as this matcher. -/
def First (s : ByteArray) (m : Mt) : Prop := mErr m = 0 ∧ textM m = s ∧ (m.2.1 = 0 → ∀ m' : Mt, mErr m' = 0 → textM m' = s → m'.2.1 = 0)
/-- It is read as none. -/
def NoFirst (s : ByteArray) : Prop := ∀ m : Mt, mErr m = 0 → textM m ≠ s
/-- What a Read tells, n being the number of the error of a text that is none. -/
def ReadsAs (s : ByteArray) (e : Ending) : Prop :=
  (∃ m, First s m ∧ e = .returned (.tuple #[.agg #[.string m.1, .int .u8 (m.2.1 : Int), .string m.2.2], .int .i64 0])) ∨
  (NoFirst s ∧ e = .returned (.tuple #[.agg #[.string ⟨#[]⟩, .int .u8 0, .string ⟨#[]⟩], .int .i64 4]))

theorem rdOk_of {s : ByteArray} {m : Mt} (h : mErr m = 0) (ht : textM m = s) : Lib.indexAny s.data.toList eqBang.data.toList = (m.1.size : Int) ∧ rdOk s m.1.size m.2.1 ∧ rdM s m.1.size m.2.1 = m := by
  obtain ⟨h1, h2, -, -⟩ := mErr_zero h
  subst ht
  obtain ⟨h3, h4⟩ := rd_back m
  exact ⟨text_index h1 h2, ⟨h4, by rw [h3]; exact h⟩, h3⟩

/-- Of two signs that a text begins with, one is = and the other =~. -/
theorem sign_two {s : ByteArray} {k o p : Nat} (ho : o ≤ 3) (hp : p ≤ 3) (h1 : rdOk s k o) (h2 : rdOk s k p) : o = p ∨ (o = 0 ∧ p = 2) ∨ (o = 2 ∧ p = 0) := by
  obtain ⟨r1, e1⟩ := (cutB_iff _ _).1 h1.1
  obtain ⟨r2, e2⟩ := (cutB_iff _ _).1 h2.1
  rw [e1] at e2
  rcases (by omega : o = 0 ∨ o = 1 ∨ o = 2 ∨ o = 3) with rfl | rfl | rfl | rfl <;> rcases (by omega : p = 0 ∨ p = 1 ∨ p = 2 ∨ p = 3) with rfl | rfl | rfl | rfl <;> first | exact Or.inl rfl | exact Or.inr (Or.inl ⟨rfl, rfl⟩) | exact Or.inr (Or.inr ⟨rfl, rfl⟩) | (exfalso; revert e2; simp [signL])

theorem First.one {s : ByteArray} {m m' : Mt} (h : First s m) (h' : First s m') : m = m' := by
  obtain ⟨a1, a2, a3⟩ := h
  obtain ⟨b1, b2, b3⟩ := h'
  obtain ⟨i1, r1, e1⟩ := rdOk_of a1 a2
  obtain ⟨i2, r2, e2⟩ := rdOk_of b1 b2
  have hk : m.1.size = m'.1.size := by rw [i1] at i2; exact Int.ofNat.inj i2
  rw [hk] at r1 e1
  have ho : m.2.1 = m'.2.1 := by
    rcases sign_two (mErr_zero a1).2.1 (mErr_zero b1).2.1 r1 r2 with h | ⟨h, k⟩ | ⟨h, k⟩
    · exact h
    · have := a3 h m' b1 b2; omega
    · have := b3 k m a1 a2; omega
  exact e1.symm.trans ((congrArg (rdM s m'.1.size) ho).trans e2)

theorem opAt_of (o : Nat) (h : o ≤ 3) : ∃ j, j < 4 ∧ opAt j = o ∧ (o = 2 → j = 0) := by
  rcases (by omega : o = 0 ∨ o = 1 ∨ o = 2 ∨ o = 3) with rfl | rfl | rfl | rfl
  · exact ⟨2, by decide, rfl, by decide⟩
  · exact ⟨3, by decide, rfl, by decide⟩
  · exact ⟨0, by decide, rfl, by decide⟩
  · exact ⟨1, by decide, rfl, by decide⟩

theorem tells_reads {s : ByteArray} {k : Nat} {e : Ending} (hk : Lib.indexAny s.data.toList eqBang.data.toList = k) (h : RdTells s k e) : ReadsAs s e := by
  rcases h with ⟨i, hi, hn, hy, rfl⟩ | ⟨hn, rfl⟩
  · refine Or.inl ⟨rdM s k (opAt i), ⟨hy.2, rd_text hy.1, fun h0 m' h1 h2 => ?_⟩, rfl⟩
    obtain ⟨j1, j2, -⟩ := rdOk_of h1 h2
    have hkm : m'.1.size = k := by rw [hk] at j1; exact (Int.ofNat.inj j1).symm
    rw [hkm] at j2
    have h0' : opAt i = 0 := h0
    have hi2 : i = 2 := by
      rcases (by omega : i = 0 ∨ i = 1 ∨ i = 2 ∨ i = 3) with rfl | rfl | rfl | rfl
      · cases h0'
      · cases h0'
      · rfl
      · cases h0'
    rcases sign_two (by rw [h0']; omega) (mErr_zero h1).2.1 hy j2 with h | ⟨-, h⟩ | ⟨h, -⟩
    · omega
    · have := hn 0 (by omega)
      exact absurd (by rw [h] at j2; exact j2) this
    · omega
  · refine Or.inr ⟨fun m h1 h2 => ?_, rfl⟩
    obtain ⟨j1, j2, -⟩ := rdOk_of h1 h2
    have hkm : m.1.size = k := by rw [hk] at j1; exact (Int.ofNat.inj j1).symm
    rw [hkm] at j2
    obtain ⟨j, hj, ho, -⟩ := opAt_of m.2.1 (mErr_zero h1).2.1
    exact hn j hj (by rw [ho]; exact j2)

theorem indexAny_lt (c : List UInt8) : ∀ l : List UInt8, Lib.indexAny l c < (l.length : Int) ∨ Lib.indexAny l c = -1
  | [] => Or.inr rfl
  | b :: l => by
    have ih := indexAny_lt c l
    unfold Lib.indexAny
    split
    · left; rw [List.length_cons]; omega
    · split
      · exact Or.inr rfl
      · rename_i h
        rcases ih with ih | ih
        · left; rw [List.length_cons]; omega
        · rw [ih] at h; simp at h

/-- Read of package match, at whatever text. -/
theorem mRead_reads (s : ByteArray) (w : World) (htab : TabW w) (hs : s.size < 4294967281) :
    Calls Tryd.prog 10 #[.string s] w fun e w' => ReadsAs s e ∧ Below w.heap.size w w' := by
  rcases indexAny_lt eqBang.data.toList s.data.toList with h | h
  · by_cases h0 : 0 ≤ Lib.indexAny s.data.toList eqBang.data.toList
    · obtain ⟨k, hk⟩ := Int.eq_ofNat_of_zero_le h0
      have hks : k < s.size := by rw [hk, ← Lib.size_eq] at h; omega
      exact (mRead_any s w htab hs k hk hks).mono fun e w' ⟨h1, h2⟩ => ⟨tells_reads hk h1, h2⟩
    · have h1 := Lib.indexAny_ge eqBang.data.toList s.data.toList
      have h2 : Lib.indexAny s.data.toList eqBang.data.toList = -1 := by omega
      exact (mRead_none s w hs h2).mono fun e w' ⟨h3, h4⟩ => ⟨Or.inr ⟨fun m a b => by have := (rdOk_of a b).1; omega, h3⟩, h4⟩
  · exact (mRead_none s w hs h).mono fun e w' ⟨h3, h4⟩ => ⟨Or.inr ⟨fun m a b => by have := (rdOk_of a b).1; omega, h3⟩, h4⟩

/-- A matcher that may be is read from its text, as one of that name and text. -/
theorem first_back {m : Mt} (h : mErr m = 0) : ∃ m', First (textM m) m' ∧ m'.1 = m.1 := by
  by_cases hx : ∃ m' : Mt, mErr m' = 0 ∧ textM m' = textM m ∧ m'.2.1 ≠ 0
  · obtain ⟨m', h1, h2, h3⟩ := hx
    refine ⟨m', ⟨h1, h2, fun h => absurd h h3⟩, ?_⟩
    obtain ⟨i1, -, e1⟩ := rdOk_of h1 h2
    obtain ⟨i2, -, e2⟩ := rdOk_of h rfl
    have hk : m'.1.size = m.1.size := by rw [i1] at i2; exact Int.ofNat.inj i2
    have g1 : m'.1 = (textM m).extract 0 m'.1.size := (congrArg (fun x : Mt => x.1) e1).symm
    have g2 : m.1 = (textM m).extract 0 m.1.size := (congrArg (fun x : Mt => x.1) e2).symm
    exact g1.trans ((congrArg ((textM m).extract 0) hk).trans g2.symm)
  · exact ⟨m, ⟨h, rfl, fun _ m' h1 h2 => Classical.byContradiction fun h3 => hx ⟨m', h1, h2, h3⟩⟩, rfl⟩

end Go.Proofs.YtbkejafjlapmnaaDoor
