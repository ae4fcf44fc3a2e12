/-
  Compile, step, Match and Like: what they tell. Labels, plainly: what a name is, which error pairs have, and that names in order make one list. What the small calls of package label do: isDigit, isLetter, Name, checkParts, rise, Check. Pairs lie at an address, two cells each. Pairs in memory; what checkParts, rise and Check do.
-/
import Derived.Test.YtcngifkoopcmeaaGreatDoorK12
import Derived.WalkKit
import Derived.Test.YtcngifkoopcmeaaGreatDoorRows
import Derived.WalkSpells
import Derived.WalkLawsBesides
import Derived.Lib.Hide
import Derived.OwnWalk
import Derived.Deep.QuietTactic
namespace Go.Proofs.YtcngifkoopcmeaaGreatDoor
open Go.RowKit

theorem parse_no {l : List UInt8} (h : pParse l = none) : pLoop (l.length + 1) noL epsL l = none ∨ ∃ A l', l' ≠ [] ∧ pLoop (l.length + 1) noL epsL l = some (A, l') := by
  unfold pParse at h
  split at h
  · rename_i h1; exact .inl h1
  · rename_i A l' h1
    split at h
    · cases h
    · rename_i hn; exact .inr ⟨A, l', hn, h1⟩
theorem parse_yes {l : List UInt8} {A : Lang} (h : pParse l = some A) : pLoop (l.length + 1) noL epsL l = some (A, []) := by
  unfold pParse at h
  split at h
  · cases h
  · rename_i A' l' h1
    split at h
    · rename_i hn
      subst hn
      injection h with h
      subst h
      exact h1
    · cases h

theorem read_bad (s : ByteArray) (w : World) (hs : s.size ≤ 64) (htab : TabW w) (ho : pParse s.data.toList = none) :
    Calls Tryz.prog 172 #[.string s] w fun e w' => e = .returned (.tuple #[.pointer none, .int .i64 9]) ∧ Below w.heap.size w w' := by
  have e : s.data.toList.length = s.size := by simp
  rcases parse_no ho with h | ⟨A, l', h1, h2⟩
  · rw [e] at h; exact read_none s w hs htab h
  · rw [e] at h2; exact read_more s w hs htab A l' h1 h2
theorem read_good (s : ByteArray) (w : World) (hs : s.size ≤ 64) (htab : TabW w) (A : Lang) (ho : pParse s.data.toList = some A) :
    Calls Tryz.prog 172 #[.string s] w fun e w' => ∃ xb, e = .returned (.tuple #[.pointer (some ⟨xb, 0, none⟩), .int .i64 0]) ∧ PatAt w' xb A ∧ Below w.heap.size w w' := by
  have e : s.data.toList.length = s.size := by simp
  have h := parse_yes ho
  rw [e] at h
  exact read_ok s w hs htab A h

set_option maxHeartbeats 400000 in
theorem comp_long (s : ByteArray) (w : World) (hs : 64 < s.size) : Calls Tryz.prog 153 #[.string s] w fun e w' => e = .returned (.tuple #[.pointer none, .int .i64 5]) ∧ w' = w := by
  have h1 : (64 : Int) < (s.size : Int) := by omega
  go_enter Tryz.func153, Tryz.ntmps153
  go_wp2
  go_ret2
  exact ⟨rfl, rfl⟩
set_option maxHeartbeats 400000 in
theorem comp_bad (s : ByteArray) (w : World) (hs : s.size ≤ 64) (htab : TabW w) (ho : pParse s.data.toList = none) : Calls Tryz.prog 153 #[.string s] w fun e w' => e = .returned (.tuple #[.pointer none, .int .i64 9]) ∧ Below w.heap.size w w' := by
  have h1 : ¬ (64 : Int) < (s.size : Int) := by omega
  have HR := Lib.hid (read_bad s w hs htab ho)
  clear ho htab
  go_enter Tryz.func153, Tryz.ntmps153
  go_wp2_with (go_at_call 172; refine HR.out.mono ?_; rintro e w1 ⟨rfl, hb⟩)
  go_ret2
  exact ⟨rfl, hb⟩
set_option maxHeartbeats 400000 in
theorem comp_good (s : ByteArray) (w : World) (hs : s.size ≤ 64) (htab : TabW w) (A : Lang) (ho : pParse s.data.toList = some A) :
    Calls Tryz.prog 153 #[.string s] w fun e w' => ∃ xb, e = .returned (.tuple #[.pointer (some ⟨xb, 0, none⟩), .int .i64 0]) ∧ PatAt w' xb A ∧ Below w.heap.size w w' := by
  have h1 : ¬ (64 : Int) < (s.size : Int) := by omega
  have HR := Lib.hid (read_good s w hs htab A ho)
  clear ho htab
  go_enter Tryz.func153, Tryz.ntmps153
  go_wp2_with (go_at_call 172; refine HR.out.mono ?_; rintro e w1 ⟨xb, rfl, hx, hb⟩)
  go_ret2
  exact ⟨xb, rfl, hx, hb⟩

/- step -/
def Step1 (pl : List Pl) (m r : Nat) (c : UInt8) (h x : Nat) : Prop :=
  (∀ j, r.testBit j = true → m.testBit j = true) ∧ (∀ j, h.testBit j = true ↔ m.testBit j = true ∧ r.testBit j = false ∧ ∃ p, pl[j]? = some p ∧ p.has c = true) ∧ ∀ k, x.testBit k = true ↔ ∃ j p, h.testBit j = true ∧ pl[j]? = some p ∧ p.nx.testBit k = true
theorem Step1.start (pl : List Pl) (m : Nat) (c : UInt8) : Step1 pl m m c 0 0 :=
  ⟨fun _ h => h, fun j => ⟨fun h => by simp at h, fun ⟨h1, h2, _⟩ => by rw [h1] at h2; cases h2⟩, fun k => ⟨fun h => by simp at h, fun ⟨j, p, h, _⟩ => by simp at h⟩⟩
theorem Step1.done {pl : List Pl} {m : Nat} {c : UInt8} {h x : Nat} (hs : Step1 pl m 0 c h x) : Stepped pl m c h x :=
  ⟨fun j => by rw [hs.2.1 j]; simp, hs.2.2⟩
theorem Step1.skip {pl : List Pl} {m r r' i : Nat} {c : UInt8} {h x : Nat} {p : Pl} (hs : Step1 pl m r c h x) (hb : ∀ j, r'.testBit j = true ↔ r.testBit j = true ∧ j ≠ i) (hp : pl[i]? = some p) (hn : p.has c = false) : Step1 pl m r' c h x := by
  refine ⟨fun j hj => hs.1 j ((hb j).1 hj).1, fun j => ?_, hs.2.2⟩
  rw [hs.2.1 j]
  constructor
  · rintro ⟨h1, h2, h3⟩
    refine ⟨h1, ?_, h3⟩
    cases hr : r'.testBit j with
    | false => rfl
    | true => rw [((hb j).1 hr).1] at h2; cases h2
  · rintro ⟨h1, h2, q, h3, h4⟩
    refine ⟨h1, ?_, q, h3, h4⟩
    cases hr : r.testBit j with
    | false => rfl
    | true =>
      have hne : j ≠ i := fun e => by
        subst e
        obtain rfl := Option.some.inj (hp.symm.trans h3)
        rw [hn] at h4
        cases h4
      rw [(hb j).2 ⟨hr, hne⟩] at h2
      cases h2
theorem Step1.take {pl : List Pl} {m r r' i : Nat} {c : UInt8} {h x : Nat} {p : Pl} (hs : Step1 pl m r c h x) (hb : ∀ j, r'.testBit j = true ↔ r.testBit j = true ∧ j ≠ i) (hi : r.testBit i = true) (hp : pl[i]? = some p) (hn : p.has c = true) : Step1 pl m r' c (h ||| 2 ^ i) (x ||| p.nx) := by
  have hbit : ∀ j, (h ||| 2 ^ i).testBit j = true ↔ h.testBit j = true ∨ j = i := fun j => by rw [or_bit, Nat.testBit_two_pow, decide_eq_true_eq]; exact ⟨fun h => h.imp id Eq.symm, fun h => h.imp id Eq.symm⟩
  refine ⟨fun j hj => hs.1 j ((hb j).1 hj).1, fun j => ?_, fun k => ?_⟩
  · rw [hbit, hs.2.1 j]
    constructor
    · rintro (⟨h1, h2, h3⟩ | rfl)
      · refine ⟨h1, ?_, h3⟩
        cases hr : r'.testBit j with
        | false => rfl
        | true => rw [((hb j).1 hr).1] at h2; cases h2
      · refine ⟨hs.1 j hi, ?_, p, hp, hn⟩
        cases hr : r'.testBit j with
        | false => rfl
        | true => exact absurd rfl ((hb j).1 hr).2
    · rintro ⟨h1, h2, h3⟩
      by_cases hne : j = i
      · exact .inr hne
      · refine .inl ⟨h1, ?_, h3⟩
        cases hr : r.testBit j with
        | false => rfl
        | true => rw [(hb j).2 ⟨hr, hne⟩] at h2; cases h2
  · rw [or_bit, hs.2.2 k]
    constructor
    · rintro (⟨j, q, h1, h2, h3⟩ | h1)
      · exact ⟨j, q, (hbit j).2 (.inl h1), h2, h3⟩
      · exact ⟨i, p, (hbit i).2 (.inr rfl), hp, h1⟩
    · rintro ⟨j, q, h1, h2, h3⟩
      rcases (hbit j).1 h1 with h1 | rfl
      · exact .inl ⟨j, q, h1, h2, h3⟩
      · obtain rfl := Option.some.inj (hp.symm.trans h2)
        exact .inr h3

set_option maxHeartbeats 2000000 in
theorem step_any (B xb : Nat) (v : Value) (P : Pc) (pl : List Pl) (m : Nat) (c : UInt8) (w : World) (hx : Rx w B xb v P pl) (hm : m < 18446744073709551616) (hb : ∀ j, m.testBit j = true → j < pl.length) (htab : TabW w) :
    Calls Tryz.prog 181 #[.pointer (some ⟨xb, 0, none⟩), .int .u64 m, .int .u8 c.toNat] w fun e w' => ∃ h x : Nat, e = .returned (.tuple #[.int .u64 h, .int .u64 x]) ∧ h < 18446744073709551616 ∧ x < 18446744073709551616 ∧ Hid (Stepped pl m c h x) ∧ w' = w := by
  have c0 := hx.blk.cell0
  go_enter Tryz.func181, Tryz.ntmps181
  go_wp2
  go_loop [1, 6, 7] (fun a b d => ∃ r h x : Nat, a = .int .u64 r ∧ b = .int .u64 h ∧ d = .int .u64 x ∧ r < 18446744073709551616 ∧ h < 18446744073709551616 ∧ x < 18446744073709551616 ∧ Hid (Step1 pl m r c h x)) (fun a _ _ => (intOf a).toNat)
  case atStart => exact ⟨m, 0, 0, rfl, rfl, rfl, hm, by omega, by omega, Lib.hid (Step1.start pl m c)⟩
  case round =>
    obtain ⟨r, h, x, rfl, rfl, rfl, hr, hh, hxx, HS⟩ := hrel
    by_cases h0 : r = 0
    · subst h0
      have HD := Lib.hid HS.out.done
      go_wp2
      go_ret2
      exact ⟨h, x, rfl, hh, hxx, HD, rfl⟩
    · obtain ⟨b1, b2, b3, b4⟩ := ctz_bits r h0 hr
      have HT := Lib.hid (tz_any r hr h0 w htab)
      have hil : Lib.ctz 64 r < pl.length := hb _ (HS.out.1 _ b2)
      have HP := Lib.hid (and_pred r hr h0)
      have hne : ((r : Int) != 0) = true := by simpa using h0
      have hgd := hx.good
      generalize Lib.ctz 64 r = i at *
      obtain ⟨g, cp, hv, hg1, hg2, hg3, hg4⟩ := hx.own.at (by omega)
      have c0' := c0
      rw [hv] at c0'
      have c4 := hg4 i hil 4 (by omega)
      simp only [plCells, List.getElem?_cons_succ, List.getElem?_cons_zero] at c4
      have hgi := hgd _ (List.getElem_mem hil)
      have hwa : WordsAt w g (i * 5) pl[i].W := fun j hj => by
        have := hg4 i hil j (by omega)
        rw [this]
        match j, hj with
        | 0, _ => rfl
        | 1, _ => rfl
        | 2, _ => rfl
        | 3, _ => rfl
      have HH := Lib.hid (has_any g (i * 5) pl[i].W c w hwa hgi.1)
      have hpi : pl[i]? = some pl[i] := List.getElem?_eq_getElem hil
      have hi5 : (i : Int) < (pl.length : Int) := by omega
      have HO1 := Lib.hid (or_shl h i hh b1)
      have HO2 := Lib.hid (u64_or_nat x pl[i].nx hxx hgi.2)
      have hh2 := or_lt hh (pow_lt64 b1)
      have hx2 := or_lt hxx hgi.2
      have HB := Lib.hid (And.intro b2 (And.intro b3 b4))
      have HPI := Lib.hid hpi
      cases hhas : pl[i].has c with
      | false =>
        have HS2 := Lib.hid (HS.out.skip b4 hpi hhas)
        rw [show hasW pl[i].W c = false from hhas] at HH
        clear hhas hpi hwa hgd hg3 hg4 b2 b3 b4 c0
        go_wp2_with (first | (go_at_call 198; refine HT.out.mono ?_; rintro e w' ⟨rfl, rfl⟩) | (go_at_call 199; refine HH.out.mono ?_; rintro e w' ⟨rfl, rfl⟩))
        obtain ⟨b2, b3, b4⟩ := HB.out
        rw [HP.out]
        exact ⟨⟨r &&& (r - 1), h, x, rfl, rfl, rfl, by omega, hh, hxx, HS2⟩, by simp [intOf]; omega⟩
      | true =>
        have HS2 := Lib.hid (HS.out.take b4 b2 hpi hhas)
        rw [show hasW pl[i].W c = true from hhas] at HH
        clear hhas hpi hwa hgd hg3 hg4 b2 b3 b4 c0
        go_wp2_with (first | (go_at_call 198; refine HT.out.mono ?_; rintro e w' ⟨rfl, rfl⟩) | (go_at_call 199; refine HH.out.mono ?_; rintro e w' ⟨rfl, rfl⟩))
        obtain ⟨b2, b3, b4⟩ := HB.out
        rw [HP.out, HO1.out, HO2.out]
        exact ⟨⟨r &&& (r - 1), h ||| 2 ^ i, x ||| pl[i].nx, rfl, rfl, rfl, by omega, hh2, hx2, HS2⟩, by simp [intOf]; omega⟩

set_option maxHeartbeats 400000 in
theorem match_nil (t : ByteArray) (w : World) : Calls Tryz.prog 170 #[.pointer none, .string t] w fun e w' => e = .returned (.bool false) ∧ w' = w := by
  go_enter Tryz.func170, Tryz.ntmps170
  go_wp2
  go_ret
  exact ⟨rfl, rfl⟩

theorem take_snoc (s : ByteArray) (k : Nat) (h : k < s.size) : s.data.toList.take (k + 1) = s.data.toList.take k ++ [s[k]] := by
  rw [List.take_succ_eq_append_getElem (by simpa using h)]; rfl

theorem size_zero {t : ByteArray} (h : t.size = 0) : t = ⟨#[]⟩ := by
  obtain ⟨d⟩ := t
  have : d = #[] := Array.eq_empty_of_size_eq_zero h
  rw [this]

/-- The places that may be next lie there. -/
theorem next_in {pl : List Pl} {P : Pc} {u : List UInt8} {m : Nat} (hf1 : ∀ i, P.first.testBit i = true → i < pl.length) (hn1 : ∀ (i : Nat) (p : Pl), pl[i]? = some p → ∀ j, p.nx.testBit j = true → j < pl.length) (h : Next pl P u m) (j : Nat) (hj : m.testBit j = true) : j < pl.length := by
  rcases (h j).1 hj with ⟨-, h1⟩ | ⟨i, k, p, -, -, h3, h4⟩
  · exact hf1 j h1
  · exact hn1 k p h3 j h4
theorem and_ne (a b : Nat) (ha : a < 18446744073709551616) (hb : b < 18446744073709551616) : (bits BinOp.and IntKind.u64 (a : Int) (b : Int) != 0) = decide (a &&& b ≠ 0) := by
  rw [u64_and_nat a b ha hb, Bool.eq_iff_iff]
  simp only [bne_iff_ne, ne_eq, decide_eq_true_eq]
  omega

/-- Whether something is so is told. -/
def Tells (A : Prop) (e : Ending) : Prop := ∃ b : Bool, e = .returned (.bool b) ∧ (b = true ↔ A)

set_option maxHeartbeats 2000000 in
theorem match_any (B xb : Nat) (v : Value) (P : Pc) (pl : List Pl) (t : ByteArray) (w : World) (hx : Rx w B xb v P pl) (hf1 : ∀ i, P.first.testBit i = true → i < pl.length) (hl1 : P.last < 18446744073709551616) (hn1 : ∀ (i : Nat) (p : Pl), pl[i]? = some p → ∀ j, p.nx.testBit j = true → j < pl.length) (hts : t.size ≤ 9223372036854775807) (htab : TabW w) :
    Calls Tryz.prog 170 #[.pointer (some ⟨xb, 0, none⟩), .string t] w fun e w' => Tells (Acc pl P t.data.toList) e ∧ w' = w := by
  have x1 := hx.blk.cell1
  have x2 := hx.blk.cell2
  have x3 := hx.blk.cell3
  by_cases h0 : t.size = 0
  · obtain rfl := size_zero h0
    go_enter Tryz.func170, Tryz.ntmps170
    go_wp2
    go_ret
    exact ⟨⟨P.empty, rfl, Acc.nil.symm⟩, rfl⟩
  · have hne0 : t.data.toList ≠ [] := fun e => h0 (by
      have h1 : t.data.toList.length = 0 := by rw [e]; rfl
      simpa using h1)
    have hne : t.toList.isEmpty = false := by
      rw [ByteArray.toList_eq, List.isEmpty_eq_false_iff]
      exact hne0
    have hfl : P.first < 18446744073709551616 := bit_lt (i := 64) fun j hj => by have := hf1 j hj; have := hx.lim; omega
    have HNE := Lib.hid hne0
    clear hne0
    go_enter Tryz.func170, Tryz.ntmps170
    go_wp2
    go_loop [5, 6, 24] (fun a b i => ∃ k n h : Nat, k ≤ t.size ∧ i = .int .i64 k ∧ a = .int .u64 n ∧ b = .int .u64 h ∧ n < 18446744073709551616 ∧ h < 18446744073709551616 ∧ Hid (Next pl P (t.data.toList.take k) n ∧ (0 < k → Here pl P (t.data.toList.take k) h))) (fun _ _ i => t.size - (intOf i).toNat)
    case atStart => exact ⟨0, P.first, 0, Nat.zero_le _, rfl, rfl, rfl, hfl, by omega, Lib.hid ⟨Next.start pl P, fun h => absurd h (by omega)⟩⟩
    case round =>
      obtain ⟨k, n, h, hk, rfl, rfl, rfl, hn, hh, HI⟩ := hrel
      by_cases hlt : k < t.size
      · have hki : (k : Int) < (t.size : Int) := by omega
        have HS := Lib.hid (step_any B xb v P pl n t[k] w hx hn (next_in hf1 hn1 HI.out.1) htab)
        have HT := Lib.hid (take_snoc t k hlt)
        go_wp2_with (go_at_call 181; refine HS.out.mono ?_; rintro e w' ⟨h', x', rfl, hh', hx', HST, rfl⟩; refine Hid.out ?_)
        refine Lib.hid ?_
        have hgo := HST.out.go HI.out.1
        rw [← HT.out] at hgo
        have HG := Lib.hid hgo
        clear hgo
        by_cases h1 : h' = 0
        · subst h1
          have HA : Hid (¬ Acc pl P t.data.toList) := Lib.hid (by
            have := HG.out.1.stuck (by
              rw [HT.out]
              simp) (t.data.toList.drop (k + 1))
            rwa [List.take_append_drop] at this)
          go_wp2
          go_ret
          exact ⟨⟨false, rfl, ⟨(fun e => by cases e), (fun e => absurd e HA.out)⟩⟩, rfl⟩
        · have hz : ((h' : Int) == 0) = false := by simpa using h1
          go_wp2
          go_round
          case rel => exact ⟨k + 1, x', h', by omega, by go_num, rfl, rfl, hx', hh', Lib.hid ⟨HG.out.2, fun _ => HG.out.1⟩⟩
          case measure => simp [intOf]; omega
      · obtain rfl : k = t.size := by omega
        have HA : Hid (h &&& P.last ≠ 0 ↔ Acc pl P t.data.toList) := Lib.hid (by
          have := HI.out.2 (by omega)
          rw [List.take_of_length_le (by simp)] at this
          exact this.acc HNE.out)
        have HV := Lib.hid (and_ne h P.last hh hl1)
        go_wp2
        go_ret
        exact ⟨⟨_, rfl, by rw [HV.out, decide_eq_true_eq]; exact HA.out⟩, rfl⟩

theorem match_pat (xb : Nat) (A : Lang) (t : ByteArray) (w : World) (h : PatAt w xb A) (hts : t.size ≤ 9223372036854775807) (htab : TabW w) :
    Calls Tryz.prog 170 #[.pointer (some ⟨xb, 0, none⟩), .string t] w fun e w' => Tells (A t.data.toList) e ∧ w' = w := by
  obtain ⟨B, v, P, pl, hx, hf⟩ := h
  refine (match_any B xb v P pl t w hx (fun i hi => (hf.first i hi).2) (bit_lt (i := 64) fun j hj => by have := (hf.last j hj).2; have := hx.lim; omega) (fun i p hp j hj => (hf.next i p (Nat.zero_le _) (List.getElem?_eq_some_iff.1 hp).1 hp j hj).2) hts htab).mono fun e w' ⟨⟨b, h1, h2⟩, h3⟩ => ⟨⟨b, h1, h2.trans (hf.lang _)⟩, h3⟩

/-- What a pattern is: its error, and what is like it. -/
def errE (l : List UInt8) : Int := if 64 < l.length then 5 else if (pParse l).isNone = true then 9 else 0
theorem errE_zero {l : List UInt8} (h : errE l = 0) : l.length ≤ 64 ∧ ∃ A, pParse l = some A := by
  unfold errE at h
  split at h
  · omega
  · split at h
    · omega
    · rename_i h1 h2
      refine ⟨by omega, ?_⟩
      cases hp : pParse l with
      | none => rw [hp] at h2; exact absurd rfl h2
      | some A => exact ⟨A, rfl⟩
theorem errE_of {l : List UInt8} {A : Lang} (hl : l.length ≤ 64) (h : pParse l = some A) : errE l = 0 := by
  unfold errE
  rw [if_neg (by omega), h]
  rfl

/-- A call of Compile: its error alone where there is one. -/
theorem comp_err (s : ByteArray) (w : World) (htab : TabW w) (he : errE s.data.toList ≠ 0) :
    Calls Tryz.prog 153 #[.string s] w fun e w' => e = .returned (.tuple #[.pointer none, .int .i64 (errE s.data.toList)]) ∧ Below w.heap.size w w' := by
  have hl : s.data.toList.length = s.size := by simp
  unfold errE at he ⊢
  rw [hl] at he ⊢
  by_cases h1 : 64 < s.size
  · rw [if_pos h1]
    exact (comp_long s w h1).mono fun e w' ⟨h2, h3⟩ => ⟨h2, by rw [h3]; exact Below.refl _ _⟩
  · rw [if_neg h1] at he ⊢
    cases hp : pParse s.data.toList with
    | none => exact comp_bad s w (by omega) htab hp
    | some A => rw [hp] at he; exact absurd rfl he

set_option maxHeartbeats 400000 in
theorem like_err (s t : ByteArray) (w : World) (htab : TabW w) (he : errE s.data.toList ≠ 0) :
    Calls Tryz.prog 151 #[.string s, .string t] w fun e w' => e = .returned (.tuple #[.bool false, .int .i64 (errE s.data.toList)]) ∧ Below w.heap.size w w' := by
  have HC := Lib.hid (comp_err s w htab he)
  generalize errE s.data.toList = E at *
  have hb : ((E : Int) != 0) = true := by simpa using he
  clear htab he
  go_enter Tryz.func151, Tryz.ntmps151
  go_wp2_with (go_at_call 153; refine HC.out.mono ?_; rintro e w1 ⟨rfl, hb1⟩)
  go_ret2
  exact ⟨rfl, hb1⟩

/-- Whether something is so is told, with no error. -/
def Tells2 (A : Prop) (e : Ending) : Prop := ∃ b : Bool, e = .returned (.tuple #[.bool b, .int .i64 0]) ∧ (b = true ↔ A)

set_option maxHeartbeats 400000 in
theorem like_good (s t : ByteArray) (w : World) (hs : s.size ≤ 64) (htab : TabW w) (A : Lang) (ho : pParse s.data.toList = some A) (hts : t.size ≤ 9223372036854775807) :
    Calls Tryz.prog 151 #[.string s, .string t] w fun e w' => Tells2 (A t.data.toList) e ∧ Below w.heap.size w w' := by
  have HC := Lib.hid (comp_good s w hs htab A ho)
  have htl := htab.lt
  clear ho hs
  go_enter Tryz.func151, Tryz.ntmps151
  go_wp2_with (go_at_call 153; refine HC.out.mono ?_; rintro e w1 ⟨xb, rfl, hp, hb1⟩; refine Hid.out ?_)
  refine Lib.hid ?_
  have HM := Lib.hid (match_pat xb A t w1 hp hts (htab.on hb1 htl))
  go_wp2_with (go_at_call 170; refine HM.out.mono ?_; rintro e w2 ⟨⟨b, rfl, hb⟩, rfl⟩; have HB := Lib.hid hb; clear hb)
  go_ret2
  exact ⟨⟨b, rfl, HB.out⟩, hb1⟩

end Go.Proofs.YtcngifkoopcmeaaGreatDoor
namespace Go.Proofs.YtcngifkoopcmeaaGreatDoor

/-- A pair: its name and its value. -/
abbrev Pr := ByteArray × ByteArray
/-- The bytes of a name. -/
abbrev nm (p : Pr) : List UInt8 := p.1.toList

abbrev LetterN (n : Nat) : Prop := n = 95 ∨ (97 ≤ n ∧ n ≤ 122)
abbrev DigitN (n : Nat) : Prop := 48 ≤ n ∧ n ≤ 57

/-- The byte at a place of a text. -/
def byteN (s : ByteArray) (i : Nat) : Nat := if h : i < s.size then s[i].toNat else 0
theorem byteN_of {s : ByteArray} {i : Nat} (h : i < s.size) : byteN s i = s[i].toNat := dif_pos h

abbrev NameOk (s : ByteArray) : Prop := (1 ≤ s.size ∧ s.size ≤ 16) ∧ ¬ DigitN (byteN s 0) ∧ ∀ i, i < s.size → LetterN (byteN s i) ∨ DigitN (byteN s i)

abbrev LongV (p : Pr) : Prop := 64 < p.2.size
abbrev BadP (p : Pr) : Prop := ¬ NameOk p.1 ∨ p.2.size = 0

/-- Which error pairs have, but for their order. -/
def partsE (ps : List Pr) : Int := if 8 < ps.length then 5 else if ∃ p ∈ ps, LongV p then 5 else if ∃ p ∈ ps, BadP p then 6 else 0

/-- Names rise. -/
abbrev Rise (ps : List Pr) : Prop := ps.Pairwise fun a b => nm a < nm b

/-- Check's answer. -/
def checkE (ps : List Pr) : Int := if partsE ps ≠ 0 then partsE ps else if Rise ps then 0 else 4

/-- No name is there twice. -/
abbrev Once (ps : List Pr) : Prop := (ps.map nm).Nodup

/-- Sort's error. -/
def sortE (ps : List Pr) : Int := if partsE ps ≠ 0 then partsE ps else if Once ps then 0 else 7

theorem nm_trans {a b c : List UInt8} (h : a < b) (k : b < c) : a < c := List.lt_trans h k
theorem nm_irrefl (a : List UInt8) : ¬ a < a := List.lt_irrefl a
theorem nm_tri {a b : List UInt8} (h : ¬ a < b) (hn : ¬ b < a) : a = b := List.le_antisymm (by simpa using hn) (by simpa using h)

theorem less_eq : ∀ (x y : List UInt8), Op.bytesLess x y = decide (x < y)
  | _, [] => by simp [Op.bytesLess]
  | [], _ :: _ => by simp [Op.bytesLess]
  | a :: x, b :: y => by
    rw [Op.bytesLess, less_eq x y]
    simp only [List.cons_lt_cons_iff, Bool.decide_or, Bool.decide_and]
    rfl

/-- Neighbours tell all. -/
theorem rise_of_next : ∀ (ps : List Pr), (∀ i (h : i + 1 < ps.length), nm ps[i] < nm ps[i + 1]) → Rise ps
  | [], _ => List.Pairwise.nil
  | [a], _ => List.pairwise_singleton _ a
  | a :: b :: r, h => by
    have hr : Rise (b :: r) := rise_of_next (b :: r) fun i hi => h (i + 1) (Nat.succ_lt_succ hi)
    have hab : nm a < nm b := by simpa using h 0 (by simp)
    refine List.Pairwise.cons (fun x hx => ?_) hr
    rcases List.mem_cons.1 hx with rfl | hx
    · exact hab
    · exact nm_trans hab ((List.pairwise_cons.1 hr).1 x hx)
theorem rise_next {ps : List Pr} (h : Rise ps) (i : Nat) (hi : i + 1 < ps.length) : nm ps[i] < nm ps[i + 1] := List.pairwise_iff_getElem.1 h i (i + 1) (by omega) hi (by omega)
theorem rise_once {ps : List Pr} (h : Rise ps) : Once ps := by
  unfold Once List.Nodup
  rw [List.pairwise_map]
  exact List.Pairwise.imp (fun {a b} (hab : nm a < nm b) (e : nm a = nm b) => nm_irrefl (nm b) (e ▸ hab)) h

/-- Rising lists of the same pairs are one. -/
theorem rise_eq : ∀ {xs ys : List Pr}, xs.Perm ys → Rise xs → Rise ys → xs = ys
  | [], ys, hp, _, _ => by rw [List.nil_perm.1 hp]
  | x :: xs, [], hp, _, _ => by simp at hp
  | x :: xs, y :: ys, hp, hx, hy => by
    obtain ⟨hx1, hx2⟩ := List.pairwise_cons.1 hx
    obtain ⟨hy1, hy2⟩ := List.pairwise_cons.1 hy
    have hxy : x = y := by
      have hxm : x ∈ y :: ys := hp.subset (List.mem_cons_self ..)
      have hym : y ∈ x :: xs := hp.symm.subset (List.mem_cons_self ..)
      rcases List.mem_cons.1 hxm with h | h
      · exact h
      · rcases List.mem_cons.1 hym with k | k
        · exact k.symm
        · exact absurd (nm_trans (hy1 x h) (hx1 y k)) (nm_irrefl _)
    subst hxy
    rw [rise_eq (List.perm_cons x |>.1 hp) hx2 hy2]

theorem once_perm {xs ys : List Pr} (h : xs.Perm ys) : Once xs ↔ Once ys := (h.map nm).nodup_iff
theorem any_perm {xs ys : List Pr} (h : xs.Perm ys) (q : Pr → Prop) : (∃ p ∈ xs, q p) ↔ ∃ p ∈ ys, q p :=
  ⟨fun ⟨p, hp, hq⟩ => ⟨p, h.mem_iff.1 hp, hq⟩, fun ⟨p, hp, hq⟩ => ⟨p, h.mem_iff.2 hp, hq⟩⟩
theorem partsE_perm {xs ys : List Pr} (h : xs.Perm ys) : partsE xs = partsE ys := by
  unfold partsE
  rw [h.length_eq]
  simp only [any_perm h]
theorem sortE_perm {xs ys : List Pr} (h : xs.Perm ys) : sortE xs = sortE ys := by
  unfold sortE
  rw [partsE_perm h]
  simp only [once_perm h]

/-- What does not fall and has no name twice rises. -/
theorem rise_of_up {ps : List Pr} (h : ps.Pairwise fun a b => ¬ nm b < nm a) (ho : Once ps) : Rise ps := by
  unfold Once List.Nodup at ho
  rw [List.pairwise_map] at ho
  refine (List.Pairwise.and h ho).imp fun {a b} hab => ?_
  by_cases hlt : nm a < nm b
  · exact hlt
  · exact absurd (nm_tri hlt hab.1) hab.2

/-- The first pair of a name. -/
def getV (ps : List Pr) (n : List UInt8) : ByteArray := match ps.find? fun p => nm p == n with | some p => p.2 | none => ⟨#[]⟩

theorem getV_of_once {ps : List Pr} (h : Once ps) {p : Pr} (hp : p ∈ ps) : getV ps (nm p) = p.2 := by
  unfold getV
  induction ps with
  | nil => cases hp
  | cons a r ih =>
    rw [List.find?_cons]
    unfold Once at h
    rw [List.map_cons, List.nodup_cons] at h
    rcases List.mem_cons.1 hp with rfl | hr
    · simp
    · have hne : nm a ≠ nm p := fun e => h.1 (e ▸ List.mem_map_of_mem hr)
      simp only [beq_eq_false_iff_ne.2 hne]
      exact ih h.2 hr

end Go.Proofs.YtcngifkoopcmeaaGreatDoor
namespace Go.Proofs.YtcngifkoopcmeaaGreatDoor
open Go.RowKit

set_option maxHeartbeats 400000 in
theorem isDigit_any (n : Nat) (w : World) : Calls Tryz.prog 117 #[.int .u8 n] w fun e w' => e = .returned (.bool (decide (DigitN n))) ∧ w' = w := by
  unfold DigitN
  by_cases h1 : 48 ≤ n
  · have h1' : (48 : Int) ≤ n := by omega
    by_cases h2 : n ≤ 57
    · have h2' : (n : Int) ≤ 57 := by omega
      go_enter Tryz.func117, Tryz.ntmps117
      go_wp2
      go_ret
      simp_all
    · have h2' : ¬ (n : Int) ≤ 57 := by omega
      go_enter Tryz.func117, Tryz.ntmps117
      go_wp2
      go_ret
      simp_all
  · have h1' : ¬ (48 : Int) ≤ n := by omega
    go_enter Tryz.func117, Tryz.ntmps117
    go_wp2
    go_ret
    simp_all

set_option maxHeartbeats 400000 in
theorem isLetter_any (n : Nat) (w : World) : Calls Tryz.prog 118 #[.int .u8 n] w fun e w' => e = .returned (.bool (decide (LetterN n))) ∧ w' = w := by
  unfold LetterN
  by_cases h0 : n = 95
  · subst h0
    go_enter Tryz.func118, Tryz.ntmps118
    go_wp2
    go_ret
    simp
  · have h0' : ¬ (n : Int) = 95 := by omega
    by_cases h1 : 97 ≤ n
    · have h1' : (97 : Int) ≤ n := by omega
      by_cases h2 : n ≤ 122
      · have h2' : (n : Int) ≤ 122 := by omega
        go_enter Tryz.func118, Tryz.ntmps118
        go_wp2
        go_ret
        simp_all
      · have h2' : ¬ (n : Int) ≤ 122 := by omega
        go_enter Tryz.func118, Tryz.ntmps118
        go_wp2
        go_ret
        simp_all
    · have h1' : ¬ (97 : Int) ≤ n := by omega
      go_enter Tryz.func118, Tryz.ntmps118
      go_wp2
      go_ret
      simp_all

theorem upto_succ {p : Nat → Prop} {k : Nat} (h : ∀ j, j < k → p j) (hk : p k) (j : Nat) (hj : j < k + 1) : p j := by
  rcases Nat.lt_succ_iff_lt_or_eq.1 hj with h1 | rfl
  · exact h j h1
  · exact hk

set_option maxHeartbeats 400000 in
theorem Name_any (s : ByteArray) (w : World) : Calls Tryz.prog 70 #[.string s] w fun e w' => e = .returned (.bool (decide (NameOk s))) ∧ w' = w := by
  by_cases h1 : s.size < 1
  · have hno : decide (NameOk s) = false := decide_eq_false fun h => by have := h.1; omega
    rw [hno]
    clear hno
    have h1' : (s.size : Int) < 1 := by omega
    go_enter Tryz.func70, Tryz.ntmps70
    go_wp2
    go_ret
    exact ⟨rfl, rfl⟩
  by_cases h2 : 16 < s.size
  · have hno : decide (NameOk s) = false := decide_eq_false fun h => by have := h.1; omega
    rw [hno]
    clear hno
    have h1' : ¬ (s.size : Int) < 1 := by omega
    have h2' : (16 : Int) < (s.size : Int) := by omega
    go_enter Tryz.func70, Tryz.ntmps70
    go_wp2
    go_ret
    exact ⟨rfl, rfl⟩
  have h1' : ¬ (s.size : Int) < 1 := by omega
  have h2' : ¬ (16 : Int) < (s.size : Int) := by omega
  by_cases h3 : DigitN (byteN s 0)
  · have hno : decide (NameOk s) = false := decide_eq_false fun h => h.2.1 h3
    rw [hno]
    clear hno
    rw [byteN_of (by omega)] at h3
    have h3' := decide_eq_true h3
    clear h3
    go_enter Tryz.func70, Tryz.ntmps70
    go_wp2_with (go_at_call 117; refine (isDigit_any _ _).mono ?_; rintro e w ⟨rfl, rfl⟩)
    go_ret
    exact ⟨rfl, rfl⟩
  · have h3' : decide (DigitN (byteN s 0)) = false := decide_eq_false h3
    have hok : decide (NameOk s) = decide (∀ i, i < s.size → LetterN (byteN s i) ∨ DigitN (byteN s i)) := by
      rw [decide_eq_decide]
      exact ⟨fun h => h.2.2, fun h => ⟨⟨by omega, by omega⟩, h3, h⟩⟩
    rw [hok]
    clear hok
    rw [byteN_of (by omega)] at h3'
    go_enter Tryz.func70, Tryz.ntmps70
    go_wp2_with (go_at_call 117; refine (isDigit_any _ _).mono ?_; rintro e w ⟨rfl, rfl⟩)
    go_loop [19] (fun i => ∃ k : Nat, k ≤ s.size ∧ i = .int .i64 k ∧ ∀ j, j < k → LetterN (byteN s j) ∨ DigitN (byteN s j)) (fun i => s.size - (intOf i).toNat)
    case atStart => exact ⟨0, Nat.zero_le _, rfl, fun j hj => absurd hj (Nat.not_lt_zero _)⟩
    case round =>
      obtain ⟨k, hk, rfl, hall⟩ := hrel
      by_cases hlt : k < s.size
      · have hkl : (k : Int) < (s.size : Int) := by omega
        by_cases hL : LetterN s[k].toNat
        · have hL' := decide_eq_true hL
          go_wp2_with (go_at_call 118; refine (isLetter_any _ _).mono ?_; rintro e w ⟨rfl, rfl⟩)
          go_round
          case rel => exact ⟨k + 1, by omega, by go_num, upto_succ hall (by rw [byteN_of hlt]; exact .inl hL)⟩
          case measure => simp [intOf]; omega
        · have hL' := decide_eq_false hL
          by_cases hD : DigitN s[k].toNat
          · have hD' := decide_eq_true hD
            go_wp2_with (first | (go_at_call 118; refine (isLetter_any _ _).mono ?_; rintro e w ⟨rfl, rfl⟩) | (go_at_call 117; refine (isDigit_any _ _).mono ?_; rintro e w ⟨rfl, rfl⟩))
            go_round
            case rel => exact ⟨k + 1, by omega, by go_num, upto_succ hall (by rw [byteN_of hlt]; exact .inr hD)⟩
            case measure => simp [intOf]; omega
          · have hD' := decide_eq_false hD
            have hno : decide (∀ i, i < s.size → LetterN (byteN s i) ∨ DigitN (byteN s i)) = false := decide_eq_false fun h => by
              have := h k hlt
              rw [byteN_of hlt] at this
              exact this.elim hL hD
            have HN := Lib.hid hno
            clear hno
            go_wp2_with (first | (go_at_call 118; refine (isLetter_any _ _).mono ?_; rintro e w ⟨rfl, rfl⟩) | (go_at_call 117; refine (isDigit_any _ _).mono ?_; rintro e w ⟨rfl, rfl⟩))
            go_ret
            exact ⟨by rw [HN.out]; rfl, rfl⟩
      · obtain rfl : k = s.size := by omega
        have HN := Lib.hid (decide_eq_true hall)
        go_wp2
        go_ret
        exact ⟨by rw [HN.out]; rfl, rfl⟩

end Go.Proofs.YtcngifkoopcmeaaGreatDoor
namespace Go.Proofs.YtcngifkoopcmeaaGreatDoor
open Go.RowKit
theorem below_drewN {B : Nat} {a w : World} (h : Below B a w) (n : Nat) : Below B a (w.drewN n) := h.trans ⟨rfl, rfl, rfl, Nat.le_refl _, fun _ _ => rfl⟩

/-- Pairs lie at an address; where there are none, anywhere. -/
def PairsAt (w : World) (a : Option Addr) (ps : List Pr) : Prop :=
  0 < ps.length → ∃ b o, a = some ⟨b, o, none⟩ ∧ ∀ i (hi : i < ps.length), w.cell? ⟨b, o + i * 2, none⟩ = some (.string ps[i].1) ∧ w.cell? ⟨b, o + i * 2 + 1, none⟩ = some (.string ps[i].2)

theorem PairsAt.below {w w' : World} {a : Option Addr} {ps : List Pr} {B : Nat} (h : PairsAt w a ps) (hb : Below B w w') (hB : w.heap.size ≤ B) : PairsAt w' a ps := fun hn => by
  obtain ⟨b, o, rfl, hc⟩ := h hn
  refine ⟨b, o, rfl, fun i hi => ?_⟩
  obtain ⟨h1, h2⟩ := hc i hi
  exact ⟨by rw [hb.cell (Nat.lt_of_lt_of_le (World.block_lt_of_cell? w _ h1) hB)]; exact h1, by rw [hb.cell (Nat.lt_of_lt_of_le (World.block_lt_of_cell? w _ h2) hB)]; exact h2⟩

theorem str_empty (s : ByteArray) : s.toList.isEmpty = (s.size == 0) := by
  rw [ByteArray.toList_eq]
  obtain ⟨⟨l⟩⟩ := s
  cases l <;> simp [ByteArray.size]

theorem partsE_val (ps : List Pr) (h8 : ¬ 8 < ps.length) (hL : ∀ i (hi : i < ps.length), ¬ LongV ps[i]) : partsE ps = if ∃ p ∈ ps, BadP p then 6 else 0 := by
  unfold partsE
  rw [if_neg h8, if_neg]
  rintro ⟨p, hp, hl⟩
  obtain ⟨i, hi, rfl⟩ := List.getElem_of_mem hp
  exact hL i hi hl

theorem rise_not {ps : List Pr} (i : Nat) (hi : i + 1 < ps.length) (h : ¬ nm ps[i] < nm ps[i + 1]) : ¬ Rise ps := fun hr => h (rise_next hr i hi)

theorem partsE_zero {ps : List Pr} (h : partsE ps = 0) : ps.length ≤ 8 := by
  unfold partsE at h
  split at h
  · omega
  · omega

end Go.Proofs.YtcngifkoopcmeaaGreatDoor
