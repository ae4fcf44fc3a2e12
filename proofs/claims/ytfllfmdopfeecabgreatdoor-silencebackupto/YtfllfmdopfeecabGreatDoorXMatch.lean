/-
  Compile, step, Match and Like: what they tell.
-/
import Derived.Test.YtfllfmdopfeecabGreatDoorXRead
namespace Go.Proofs.YtfllfmdopfeecabGreatDoor
open Go.RowKit

theorem parse_no {l : List UInt8} (h : pParse l = none) : pLoop (l.length + 1) noL epsL l = none ∨ ∃ A l', l' ≠ [] ∧ pLoop (l.length + 1) noL epsL l = some (A, l') := by
  unfold pParse at h
  split at h
  · rename_i h1; exact .inl h1
  · rename_i A l' h1
    split at h
    · cases h
    · rename_i hn; exact .inr ⟨A, l', hn, h1⟩
theorem parse_yes {l : List UInt8} {A : Lang} (h : pParse l = some A) : pLoop (l.length + 1) noL epsL l = some (A, []) := by
  unfold pParse at h
  split at h
  · cases h
  · rename_i A' l' h1
    split at h
    · rename_i hn
      subst hn
      injection h with h
      subst h
      exact h1
    · cases h

theorem read_bad (s : ByteArray) (w : World) (hs : s.size ≤ 64) (htab : TabW w) (ho : pParse s.data.toList = none) :
    Calls Tryz.prog 96 #[.string s] w fun e w' => e = .returned (.tuple #[.pointer none, .int .i64 9]) ∧ Below w.heap.size w w' := by
  have e : s.data.toList.length = s.size := by simp
  rcases parse_no ho with h | ⟨A, l', h1, h2⟩
  · rw [e] at h; exact read_none s w hs htab h
  · rw [e] at h2; exact read_more s w hs htab A l' h1 h2
theorem read_good (s : ByteArray) (w : World) (hs : s.size ≤ 64) (htab : TabW w) (A : Lang) (ho : pParse s.data.toList = some A) :
    Calls Tryz.prog 96 #[.string s] w fun e w' => ∃ xb, e = .returned (.tuple #[.pointer (some ⟨xb, 0, none⟩), .int .i64 0]) ∧ PatAt w' xb A ∧ Below w.heap.size w w' := by
  have e : s.data.toList.length = s.size := by simp
  have h := parse_yes ho
  rw [e] at h
  exact read_ok s w hs htab A h

set_option maxHeartbeats 400000 in
theorem comp_long (s : ByteArray) (w : World) (hs : 64 < s.size) : Calls Tryz.prog 85 #[.string s] w fun e w' => e = .returned (.tuple #[.pointer none, .int .i64 5]) ∧ w' = w := by
  have h1 : (64 : Int) < (s.size : Int) := by omega
  go_enter Tryz.func85, Tryz.ntmps85
  go_wp2
  go_ret2
  exact ⟨rfl, rfl⟩
set_option maxHeartbeats 400000 in
theorem comp_bad (s : ByteArray) (w : World) (hs : s.size ≤ 64) (htab : TabW w) (ho : pParse s.data.toList = none) : Calls Tryz.prog 85 #[.string s] w fun e w' => e = .returned (.tuple #[.pointer none, .int .i64 9]) ∧ Below w.heap.size w w' := by
  have h1 : ¬ (64 : Int) < (s.size : Int) := by omega
  have HR := Lib.hid (read_bad s w hs htab ho)
  clear ho htab
  go_enter Tryz.func85, Tryz.ntmps85
  go_wp2_with (go_at_call 96; refine HR.out.mono ?_; rintro e w1 ⟨rfl, hb⟩)
  go_ret2
  exact ⟨rfl, hb⟩
set_option maxHeartbeats 400000 in
theorem comp_good (s : ByteArray) (w : World) (hs : s.size ≤ 64) (htab : TabW w) (A : Lang) (ho : pParse s.data.toList = some A) :
    Calls Tryz.prog 85 #[.string s] w fun e w' => ∃ xb, e = .returned (.tuple #[.pointer (some ⟨xb, 0, none⟩), .int .i64 0]) ∧ PatAt w' xb A ∧ Below w.heap.size w w' := by
  have h1 : ¬ (64 : Int) < (s.size : Int) := by omega
  have HR := Lib.hid (read_good s w hs htab A ho)
  clear ho htab
  go_enter Tryz.func85, Tryz.ntmps85
  go_wp2_with (go_at_call 96; refine HR.out.mono ?_; rintro e w1 ⟨xb, rfl, hx, hb⟩)
  go_ret2
  exact ⟨xb, rfl, hx, hb⟩

/- step -/
def Step1 (pl : List Pl) (m r : Nat) (c : UInt8) (h x : Nat) : Prop :=
  (∀ j, r.testBit j = true → m.testBit j = true) ∧ (∀ j, h.testBit j = true ↔ m.testBit j = true ∧ r.testBit j = false ∧ ∃ p, pl[j]? = some p ∧ p.has c = true) ∧ ∀ k, x.testBit k = true ↔ ∃ j p, h.testBit j = true ∧ pl[j]? = some p ∧ p.nx.testBit k = true
theorem Step1.start (pl : List Pl) (m : Nat) (c : UInt8) : Step1 pl m m c 0 0 :=
  ⟨fun _ h => h, fun j => ⟨fun h => by simp at h, fun ⟨h1, h2, _⟩ => by rw [h1] at h2; cases h2⟩, fun k => ⟨fun h => by simp at h, fun ⟨j, p, h, _⟩ => by simp at h⟩⟩
theorem Step1.done {pl : List Pl} {m : Nat} {c : UInt8} {h x : Nat} (hs : Step1 pl m 0 c h x) : Stepped pl m c h x :=
  ⟨fun j => by rw [hs.2.1 j]; simp, hs.2.2⟩
theorem Step1.skip {pl : List Pl} {m r r' i : Nat} {c : UInt8} {h x : Nat} {p : Pl} (hs : Step1 pl m r c h x) (hb : ∀ j, r'.testBit j = true ↔ r.testBit j = true ∧ j ≠ i) (hp : pl[i]? = some p) (hn : p.has c = false) : Step1 pl m r' c h x := by
  refine ⟨fun j hj => hs.1 j ((hb j).1 hj).1, fun j => ?_, hs.2.2⟩
  rw [hs.2.1 j]
  constructor
  · rintro ⟨h1, h2, h3⟩
    refine ⟨h1, ?_, h3⟩
    cases hr : r'.testBit j with
    | false => rfl
    | true => rw [((hb j).1 hr).1] at h2; cases h2
  · rintro ⟨h1, h2, q, h3, h4⟩
    refine ⟨h1, ?_, q, h3, h4⟩
    cases hr : r.testBit j with
    | false => rfl
    | true =>
      have hne : j ≠ i := fun e => by
        subst e
        obtain rfl := Option.some.inj (hp.symm.trans h3)
        rw [hn] at h4
        cases h4
      rw [(hb j).2 ⟨hr, hne⟩] at h2
      cases h2
theorem Step1.take {pl : List Pl} {m r r' i : Nat} {c : UInt8} {h x : Nat} {p : Pl} (hs : Step1 pl m r c h x) (hb : ∀ j, r'.testBit j = true ↔ r.testBit j = true ∧ j ≠ i) (hi : r.testBit i = true) (hp : pl[i]? = some p) (hn : p.has c = true) : Step1 pl m r' c (h ||| 2 ^ i) (x ||| p.nx) := by
  have hbit : ∀ j, (h ||| 2 ^ i).testBit j = true ↔ h.testBit j = true ∨ j = i := fun j => by rw [or_bit, Nat.testBit_two_pow, decide_eq_true_eq]; exact ⟨fun h => h.imp id Eq.symm, fun h => h.imp id Eq.symm⟩
  refine ⟨fun j hj => hs.1 j ((hb j).1 hj).1, fun j => ?_, fun k => ?_⟩
  · rw [hbit, hs.2.1 j]
    constructor
    · rintro (⟨h1, h2, h3⟩ | rfl)
      · refine ⟨h1, ?_, h3⟩
        cases hr : r'.testBit j with
        | false => rfl
        | true => rw [((hb j).1 hr).1] at h2; cases h2
      · refine ⟨hs.1 j hi, ?_, p, hp, hn⟩
        cases hr : r'.testBit j with
        | false => rfl
        | true => exact absurd rfl ((hb j).1 hr).2
    · rintro ⟨h1, h2, h3⟩
      by_cases hne : j = i
      · exact .inr hne
      · refine .inl ⟨h1, ?_, h3⟩
        cases hr : r.testBit j with
        | false => rfl
        | true => rw [(hb j).2 ⟨hr, hne⟩] at h2; cases h2
  · rw [or_bit, hs.2.2 k]
    constructor
    · rintro (⟨j, q, h1, h2, h3⟩ | h1)
      · exact ⟨j, q, (hbit j).2 (.inl h1), h2, h3⟩
      · exact ⟨i, p, (hbit i).2 (.inr rfl), hp, h1⟩
    · rintro ⟨j, q, h1, h2, h3⟩
      rcases (hbit j).1 h1 with h1 | rfl
      · exact .inl ⟨j, q, h1, h2, h3⟩
      · obtain rfl := Option.some.inj (hp.symm.trans h2)
        exact .inr h3

set_option maxHeartbeats 2000000 in
theorem step_any (B xb : Nat) (v : Value) (P : Pc) (pl : List Pl) (m : Nat) (c : UInt8) (w : World) (hx : Rx w B xb v P pl) (hm : m < 18446744073709551616) (hb : ∀ j, m.testBit j = true → j < pl.length) (htab : TabW w) :
    Calls Tryz.prog 101 #[.pointer (some ⟨xb, 0, none⟩), .int .u64 m, .int .u8 c.toNat] w fun e w' => ∃ h x : Nat, e = .returned (.tuple #[.int .u64 h, .int .u64 x]) ∧ h < 18446744073709551616 ∧ x < 18446744073709551616 ∧ Hid (Stepped pl m c h x) ∧ w' = w := by
  have c0 := hx.blk.cell0
  go_enter Tryz.func101, Tryz.ntmps101
  go_wp2
  go_loop [1, 6, 7] (fun a b d => ∃ r h x : Nat, a = .int .u64 r ∧ b = .int .u64 h ∧ d = .int .u64 x ∧ r < 18446744073709551616 ∧ h < 18446744073709551616 ∧ x < 18446744073709551616 ∧ Hid (Step1 pl m r c h x)) (fun a _ _ => (intOf a).toNat)
  case atStart => exact ⟨m, 0, 0, rfl, rfl, rfl, hm, by omega, by omega, Lib.hid (Step1.start pl m c)⟩
  case round =>
    obtain ⟨r, h, x, rfl, rfl, rfl, hr, hh, hxx, HS⟩ := hrel
    by_cases h0 : r = 0
    · subst h0
      have HD := Lib.hid HS.out.done
      go_wp2
      go_ret2
      exact ⟨h, x, rfl, hh, hxx, HD, rfl⟩
    · obtain ⟨b1, b2, b3, b4⟩ := ctz_bits r h0 hr
      have HT := Lib.hid (tz_any r hr h0 w htab)
      have hil : Lib.ctz 64 r < pl.length := hb _ (HS.out.1 _ b2)
      have HP := Lib.hid (and_pred r hr h0)
      have hne : ((r : Int) != 0) = true := by simpa using h0
      have hgd := hx.good
      generalize Lib.ctz 64 r = i at *
      obtain ⟨g, cp, hv, hg1, hg2, hg3, hg4⟩ := hx.own.at (by omega)
      have c0' := c0
      rw [hv] at c0'
      have c4 := hg4 i hil 4 (by omega)
      simp only [plCells, List.getElem?_cons_succ, List.getElem?_cons_zero] at c4
      have hgi := hgd _ (List.getElem_mem hil)
      have hwa : WordsAt w g (i * 5) pl[i].W := fun j hj => by
        have := hg4 i hil j (by omega)
        rw [this]
        match j, hj with
        | 0, _ => rfl
        | 1, _ => rfl
        | 2, _ => rfl
        | 3, _ => rfl
      have HH := Lib.hid (has_any g (i * 5) pl[i].W c w hwa hgi.1)
      have hpi : pl[i]? = some pl[i] := List.getElem?_eq_getElem hil
      have hi5 : (i : Int) < (pl.length : Int) := by omega
      have HO1 := Lib.hid (or_shl h i hh b1)
      have HO2 := Lib.hid (u64_or_nat x pl[i].nx hxx hgi.2)
      have hh2 := or_lt hh (pow_lt64 b1)
      have hx2 := or_lt hxx hgi.2
      have HB := Lib.hid (And.intro b2 (And.intro b3 b4))
      have HPI := Lib.hid hpi
      cases hhas : pl[i].has c with
      | false =>
        have HS2 := Lib.hid (HS.out.skip b4 hpi hhas)
        rw [show hasW pl[i].W c = false from hhas] at HH
        clear hhas hpi hwa hgd hg3 hg4 b2 b3 b4 c0
        go_wp2_with (first | (go_at_call 118; refine HT.out.mono ?_; rintro e w' ⟨rfl, rfl⟩) | (go_at_call 119; refine HH.out.mono ?_; rintro e w' ⟨rfl, rfl⟩))
        obtain ⟨b2, b3, b4⟩ := HB.out
        rw [HP.out]
        exact ⟨⟨r &&& (r - 1), h, x, rfl, rfl, rfl, by omega, hh, hxx, HS2⟩, by simp [intOf]; omega⟩
      | true =>
        have HS2 := Lib.hid (HS.out.take b4 b2 hpi hhas)
        rw [show hasW pl[i].W c = true from hhas] at HH
        clear hhas hpi hwa hgd hg3 hg4 b2 b3 b4 c0
        go_wp2_with (first | (go_at_call 118; refine HT.out.mono ?_; rintro e w' ⟨rfl, rfl⟩) | (go_at_call 119; refine HH.out.mono ?_; rintro e w' ⟨rfl, rfl⟩))
        obtain ⟨b2, b3, b4⟩ := HB.out
        rw [HP.out, HO1.out, HO2.out]
        exact ⟨⟨r &&& (r - 1), h ||| 2 ^ i, x ||| pl[i].nx, rfl, rfl, rfl, by omega, hh2, hx2, HS2⟩, by simp [intOf]; omega⟩

set_option maxHeartbeats 400000 in
theorem match_nil (t : ByteArray) (w : World) : Calls Tryz.prog 92 #[.pointer none, .string t] w fun e w' => e = .returned (.bool false) ∧ w' = w := by
  go_enter Tryz.func92, Tryz.ntmps92
  go_wp2
  go_ret
  exact ⟨rfl, rfl⟩

theorem take_snoc (s : ByteArray) (k : Nat) (h : k < s.size) : s.data.toList.take (k + 1) = s.data.toList.take k ++ [s[k]] := by
  rw [List.take_succ_eq_append_getElem (by simpa using h)]; rfl

theorem size_zero {t : ByteArray} (h : t.size = 0) : t = ⟨#[]⟩ := by
  obtain ⟨d⟩ := t
  have : d = #[] := Array.eq_empty_of_size_eq_zero h
  rw [this]

/-- The places that may be next lie there. -/
theorem next_in {pl : List Pl} {P : Pc} {u : List UInt8} {m : Nat} (hf1 : ∀ i, P.first.testBit i = true → i < pl.length) (hn1 : ∀ (i : Nat) (p : Pl), pl[i]? = some p → ∀ j, p.nx.testBit j = true → j < pl.length) (h : Next pl P u m) (j : Nat) (hj : m.testBit j = true) : j < pl.length := by
  rcases (h j).1 hj with ⟨-, h1⟩ | ⟨i, k, p, -, -, h3, h4⟩
  · exact hf1 j h1
  · exact hn1 k p h3 j h4
theorem and_ne (a b : Nat) (ha : a < 18446744073709551616) (hb : b < 18446744073709551616) : (bits BinOp.and IntKind.u64 (a : Int) (b : Int) != 0) = decide (a &&& b ≠ 0) := by
  rw [u64_and_nat a b ha hb, Bool.eq_iff_iff]
  simp only [bne_iff_ne, ne_eq, decide_eq_true_eq]
  omega

/-- Whether something is so is told. -/
def Tells (A : Prop) (e : Ending) : Prop := ∃ b : Bool, e = .returned (.bool b) ∧ (b = true ↔ A)

set_option maxHeartbeats 2000000 in
theorem match_any (B xb : Nat) (v : Value) (P : Pc) (pl : List Pl) (t : ByteArray) (w : World) (hx : Rx w B xb v P pl) (hf1 : ∀ i, P.first.testBit i = true → i < pl.length) (hl1 : P.last < 18446744073709551616) (hn1 : ∀ (i : Nat) (p : Pl), pl[i]? = some p → ∀ j, p.nx.testBit j = true → j < pl.length) (hts : t.size ≤ 9223372036854775807) (htab : TabW w) :
    Calls Tryz.prog 92 #[.pointer (some ⟨xb, 0, none⟩), .string t] w fun e w' => Tells (Acc pl P t.data.toList) e ∧ w' = w := by
  have x1 := hx.blk.cell1
  have x2 := hx.blk.cell2
  have x3 := hx.blk.cell3
  by_cases h0 : t.size = 0
  · obtain rfl := size_zero h0
    go_enter Tryz.func92, Tryz.ntmps92
    go_wp2
    go_ret
    exact ⟨⟨P.empty, rfl, Acc.nil.symm⟩, rfl⟩
  · have hne0 : t.data.toList ≠ [] := fun e => h0 (by
      have h1 : t.data.toList.length = 0 := by rw [e]; rfl
      simpa using h1)
    have hne : t.toList.isEmpty = false := by
      rw [ByteArray.toList_eq, List.isEmpty_eq_false_iff]
      exact hne0
    have hfl : P.first < 18446744073709551616 := bit_lt (i := 64) fun j hj => by have := hf1 j hj; have := hx.lim; omega
    have HNE := Lib.hid hne0
    clear hne0
    go_enter Tryz.func92, Tryz.ntmps92
    go_wp2
    go_loop [5, 6, 24] (fun a b i => ∃ k n h : Nat, k ≤ t.size ∧ i = .int .i64 k ∧ a = .int .u64 n ∧ b = .int .u64 h ∧ n < 18446744073709551616 ∧ h < 18446744073709551616 ∧ Hid (Next pl P (t.data.toList.take k) n ∧ (0 < k → Here pl P (t.data.toList.take k) h))) (fun _ _ i => t.size - (intOf i).toNat)
    case atStart => exact ⟨0, P.first, 0, Nat.zero_le _, rfl, rfl, rfl, hfl, by omega, Lib.hid ⟨Next.start pl P, fun h => absurd h (by omega)⟩⟩
    case round =>
      obtain ⟨k, n, h, hk, rfl, rfl, rfl, hn, hh, HI⟩ := hrel
      by_cases hlt : k < t.size
      · have hki : (k : Int) < (t.size : Int) := by omega
        have HS := Lib.hid (step_any B xb v P pl n t[k] w hx hn (next_in hf1 hn1 HI.out.1) htab)
        have HT := Lib.hid (take_snoc t k hlt)
        go_wp2_with (go_at_call 101; refine HS.out.mono ?_; rintro e w' ⟨h', x', rfl, hh', hx', HST, rfl⟩; refine Hid.out ?_)
        refine Lib.hid ?_
        have hgo := HST.out.go HI.out.1
        rw [← HT.out] at hgo
        have HG := Lib.hid hgo
        clear hgo
        by_cases h1 : h' = 0
        · subst h1
          have HA : Hid (¬ Acc pl P t.data.toList) := Lib.hid (by
            have := HG.out.1.stuck (by
              rw [HT.out]
              simp) (t.data.toList.drop (k + 1))
            rwa [List.take_append_drop] at this)
          go_wp2
          go_ret
          exact ⟨⟨false, rfl, ⟨(fun e => by cases e), (fun e => absurd e HA.out)⟩⟩, rfl⟩
        · have hz : ((h' : Int) == 0) = false := by simpa using h1
          go_wp2
          go_round
          case rel => exact ⟨k + 1, x', h', by omega, by go_num, rfl, rfl, hx', hh', Lib.hid ⟨HG.out.2, fun _ => HG.out.1⟩⟩
          case measure => simp [intOf]; omega
      · obtain rfl : k = t.size := by omega
        have HA : Hid (h &&& P.last ≠ 0 ↔ Acc pl P t.data.toList) := Lib.hid (by
          have := HI.out.2 (by omega)
          rw [List.take_of_length_le (by simp)] at this
          exact this.acc HNE.out)
        have HV := Lib.hid (and_ne h P.last hh hl1)
        go_wp2
        go_ret
        exact ⟨⟨_, rfl, by rw [HV.out, decide_eq_true_eq]; exact HA.out⟩, rfl⟩

theorem match_pat (xb : Nat) (A : Lang) (t : ByteArray) (w : World) (h : PatAt w xb A) (hts : t.size ≤ 9223372036854775807) (htab : TabW w) :
    Calls Tryz.prog 92 #[.pointer (some ⟨xb, 0, none⟩), .string t] w fun e w' => Tells (A t.data.toList) e ∧ w' = w := by
  obtain ⟨B, v, P, pl, hx, hf⟩ := h
  refine (match_any B xb v P pl t w hx (fun i hi => (hf.first i hi).2) (bit_lt (i := 64) fun j hj => by have := (hf.last j hj).2; have := hx.lim; omega) (fun i p hp j hj => (hf.next i p (Nat.zero_le _) (List.getElem?_eq_some_iff.1 hp).1 hp j hj).2) hts htab).mono fun e w' ⟨⟨b, h1, h2⟩, h3⟩ => ⟨⟨b, h1, h2.trans (hf.lang _)⟩, h3⟩

/-- What a pattern is: its error, and what is like it. -/
def errE (l : List UInt8) : Int := if 64 < l.length then 5 else if (pParse l).isNone = true then 9 else 0
theorem errE_zero {l : List UInt8} (h : errE l = 0) : l.length ≤ 64 ∧ ∃ A, pParse l = some A := by
  unfold errE at h
  split at h
  · omega
  · split at h
    · omega
    · rename_i h1 h2
      refine ⟨by omega, ?_⟩
      cases hp : pParse l with
      | none => rw [hp] at h2; exact absurd rfl h2
      | some A => exact ⟨A, rfl⟩
theorem errE_of {l : List UInt8} {A : Lang} (hl : l.length ≤ 64) (h : pParse l = some A) : errE l = 0 := by
  unfold errE
  rw [if_neg (by omega), h]
  rfl

/-- A call of Compile: its error alone where there is one. -/
theorem comp_err (s : ByteArray) (w : World) (htab : TabW w) (he : errE s.data.toList ≠ 0) :
    Calls Tryz.prog 85 #[.string s] w fun e w' => e = .returned (.tuple #[.pointer none, .int .i64 (errE s.data.toList)]) ∧ Below w.heap.size w w' := by
  have hl : s.data.toList.length = s.size := by simp
  unfold errE at he ⊢
  rw [hl] at he ⊢
  by_cases h1 : 64 < s.size
  · rw [if_pos h1]
    exact (comp_long s w h1).mono fun e w' ⟨h2, h3⟩ => ⟨h2, by rw [h3]; exact Below.refl _ _⟩
  · rw [if_neg h1] at he ⊢
    cases hp : pParse s.data.toList with
    | none => exact comp_bad s w (by omega) htab hp
    | some A => rw [hp] at he; exact absurd rfl he

set_option maxHeartbeats 400000 in
theorem like_err (s t : ByteArray) (w : World) (htab : TabW w) (he : errE s.data.toList ≠ 0) :
    Calls Tryz.prog 80 #[.string s, .string t] w fun e w' => e = .returned (.tuple #[.bool false, .int .i64 (errE s.data.toList)]) ∧ Below w.heap.size w w' := by
  have HC := Lib.hid (comp_err s w htab he)
  generalize errE s.data.toList = E at *
  have hb : ((E : Int) != 0) = true := by simpa using he
  clear htab he
  go_enter Tryz.func80, Tryz.ntmps80
  go_wp2_with (go_at_call 85; refine HC.out.mono ?_; rintro e w1 ⟨rfl, hb1⟩)
  go_ret2
  exact ⟨rfl, hb1⟩

/-- Whether something is so is told, with no error. -/
def Tells2 (A : Prop) (e : Ending) : Prop := ∃ b : Bool, e = .returned (.tuple #[.bool b, .int .i64 0]) ∧ (b = true ↔ A)

set_option maxHeartbeats 400000 in
theorem like_good (s t : ByteArray) (w : World) (hs : s.size ≤ 64) (htab : TabW w) (A : Lang) (ho : pParse s.data.toList = some A) (hts : t.size ≤ 9223372036854775807) :
    Calls Tryz.prog 80 #[.string s, .string t] w fun e w' => Tells2 (A t.data.toList) e ∧ Below w.heap.size w w' := by
  have HC := Lib.hid (comp_good s w hs htab A ho)
  have htl := htab.lt
  clear ho hs
  go_enter Tryz.func80, Tryz.ntmps80
  go_wp2_with (go_at_call 85; refine HC.out.mono ?_; rintro e w1 ⟨xb, rfl, hp, hb1⟩; refine Hid.out ?_)
  refine Lib.hid ?_
  have HM := Lib.hid (match_pat xb A t w1 hp hts (htab.on hb1 htl))
  go_wp2_with (go_at_call 92; refine HM.out.mono ?_; rintro e w2 ⟨⟨b, rfl, hb⟩, rfl⟩; have HB := Lib.hid hb; clear hb)
  go_ret2
  exact ⟨⟨b, rfl, HB.out⟩, hb1⟩

end Go.Proofs.YtfllfmdopfeecabGreatDoor
