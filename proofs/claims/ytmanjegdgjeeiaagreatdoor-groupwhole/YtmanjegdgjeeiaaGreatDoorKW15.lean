/-
  Compile, step, Match and Like: what they tell. What Get does: the value of the first pair of a name. Matchers, plainly: which error one has, and whether labels are as it asks. What Check and One of package match do, at whatever matcher and labels. What One of package match does, at whatever matcher and labels. DERIVED: THE SHELF's CONTRACTS AT THIS DUMP, IN PLAIN WORDS (tools/lay-plain.mjs out of 'YtmanjegdgjeeiaaGreatDoorMShelfRaw.lean', which tools/lay-shelf.mjs wrote): THE SAME DECLARATIONS UNDER THE SAME NAMES: 'import', 'namespace', 'open', 'def', 'theorem' AND NOTHING ELSE: no command of the shelf's: FOR A HAND-IN. Each laying: the table of numbers ('.._ren') and one theorem, a field a fact of the dump's own or the kernel's comparison; each contract: ONE APPLICATION. Matchers in memory; what All and CheckAll of package match do. Arguments of layer 4, opened: a matcher, matchers, labels.
-/
import Derived.Test.YtmanjegdgjeeiaaGreatDoorKW14
import Derived.Test.YtmanjegdgjeeiaaGreatDoorKW05
import Derived.Shelf.SlicesQ.IndexFunc
import Derived.Shelf.SlGeneric
import Derived.Ground.SlgfProg
import Derived.Test.YtmanjegdgjeeiaaGreatDoorProg
import Derived.Test.YtmanjegdgjeeiaaGreatDoorKW03
import Derived.Deep.SlicePairs
import Derived.Deep.Strs
import Derived.SizedLaws
namespace Go.Proofs.YtmanjegdgjeeiaaGreatDoor
open Go.RowKit

theorem parse_no {l : List UInt8} (h : pParse l = none) : pLoop (l.length + 1) noL epsL l = none ∨ ∃ A l', l' ≠ [] ∧ pLoop (l.length + 1) noL epsL l = some (A, l') := by
  unfold pParse at h
  split at h
  · rename_i h1; exact .inl h1
  · rename_i A l' h1
    split at h
    · cases h
    · rename_i hn; exact .inr ⟨A, l', hn, h1⟩
theorem parse_yes {l : List UInt8} {A : Lang} (h : pParse l = some A) : pLoop (l.length + 1) noL epsL l = some (A, []) := by
  unfold pParse at h
  split at h
  · cases h
  · rename_i A' l' h1
    split at h
    · rename_i hn
      subst hn
      injection h with h
      subst h
      exact h1
    · cases h

theorem read_bad (s : ByteArray) (w : World) (hs : s.size ≤ 64) (htab : TabW w) (ho : pParse s.data.toList = none) :
    Calls Tryz.prog 138 #[.string s] w fun e w' => e = .returned (.tuple #[.pointer none, .int .i64 9]) ∧ Below w.heap.size w w' := by
  have e : s.data.toList.length = s.size := by simp
  rcases parse_no ho with h | ⟨A, l', h1, h2⟩
  · rw [e] at h; exact read_none s w hs htab h
  · rw [e] at h2; exact read_more s w hs htab A l' h1 h2
theorem read_good (s : ByteArray) (w : World) (hs : s.size ≤ 64) (htab : TabW w) (A : Lang) (ho : pParse s.data.toList = some A) :
    Calls Tryz.prog 138 #[.string s] w fun e w' => ∃ xb, e = .returned (.tuple #[.pointer (some ⟨xb, 0, none⟩), .int .i64 0]) ∧ PatAt w' xb A ∧ Below w.heap.size w w' := by
  have e : s.data.toList.length = s.size := by simp
  have h := parse_yes ho
  rw [e] at h
  exact read_ok s w hs htab A h

set_option maxHeartbeats 400000 in
theorem comp_long (s : ByteArray) (w : World) (hs : 64 < s.size) : Calls Tryz.prog 126 #[.string s] w fun e w' => e = .returned (.tuple #[.pointer none, .int .i64 5]) ∧ w' = w := by
  have h1 : (64 : Int) < (s.size : Int) := by omega
  go_enter Tryz.func126, Tryz.ntmps126
  go_wp2
  go_ret2
  exact ⟨rfl, rfl⟩
set_option maxHeartbeats 400000 in
theorem comp_bad (s : ByteArray) (w : World) (hs : s.size ≤ 64) (htab : TabW w) (ho : pParse s.data.toList = none) : Calls Tryz.prog 126 #[.string s] w fun e w' => e = .returned (.tuple #[.pointer none, .int .i64 9]) ∧ Below w.heap.size w w' := by
  have h1 : ¬ (64 : Int) < (s.size : Int) := by omega
  have HR := Lib.hid (read_bad s w hs htab ho)
  clear ho htab
  go_enter Tryz.func126, Tryz.ntmps126
  go_wp2_with (go_at_call 138; refine HR.out.mono ?_; rintro e w1 ⟨rfl, hb⟩)
  go_ret2
  exact ⟨rfl, hb⟩
set_option maxHeartbeats 400000 in
theorem comp_good (s : ByteArray) (w : World) (hs : s.size ≤ 64) (htab : TabW w) (A : Lang) (ho : pParse s.data.toList = some A) :
    Calls Tryz.prog 126 #[.string s] w fun e w' => ∃ xb, e = .returned (.tuple #[.pointer (some ⟨xb, 0, none⟩), .int .i64 0]) ∧ PatAt w' xb A ∧ Below w.heap.size w w' := by
  have h1 : ¬ (64 : Int) < (s.size : Int) := by omega
  have HR := Lib.hid (read_good s w hs htab A ho)
  clear ho htab
  go_enter Tryz.func126, Tryz.ntmps126
  go_wp2_with (go_at_call 138; refine HR.out.mono ?_; rintro e w1 ⟨xb, rfl, hx, hb⟩)
  go_ret2
  exact ⟨xb, rfl, hx, hb⟩

/- step -/
def Step1 (pl : List Pl) (m r : Nat) (c : UInt8) (h x : Nat) : Prop :=
  (∀ j, r.testBit j = true → m.testBit j = true) ∧ (∀ j, h.testBit j = true ↔ m.testBit j = true ∧ r.testBit j = false ∧ ∃ p, pl[j]? = some p ∧ p.has c = true) ∧ ∀ k, x.testBit k = true ↔ ∃ j p, h.testBit j = true ∧ pl[j]? = some p ∧ p.nx.testBit k = true
theorem Step1.start (pl : List Pl) (m : Nat) (c : UInt8) : Step1 pl m m c 0 0 :=
  ⟨fun _ h => h, fun j => ⟨fun h => by simp at h, fun ⟨h1, h2, _⟩ => by rw [h1] at h2; cases h2⟩, fun k => ⟨fun h => by simp at h, fun ⟨j, p, h, _⟩ => by simp at h⟩⟩
theorem Step1.done {pl : List Pl} {m : Nat} {c : UInt8} {h x : Nat} (hs : Step1 pl m 0 c h x) : Stepped pl m c h x :=
  ⟨fun j => by rw [hs.2.1 j]; simp, hs.2.2⟩
theorem Step1.skip {pl : List Pl} {m r r' i : Nat} {c : UInt8} {h x : Nat} {p : Pl} (hs : Step1 pl m r c h x) (hb : ∀ j, r'.testBit j = true ↔ r.testBit j = true ∧ j ≠ i) (hp : pl[i]? = some p) (hn : p.has c = false) : Step1 pl m r' c h x := by
  refine ⟨fun j hj => hs.1 j ((hb j).1 hj).1, fun j => ?_, hs.2.2⟩
  rw [hs.2.1 j]
  constructor
  · rintro ⟨h1, h2, h3⟩
    refine ⟨h1, ?_, h3⟩
    cases hr : r'.testBit j with
    | false => rfl
    | true => rw [((hb j).1 hr).1] at h2; cases h2
  · rintro ⟨h1, h2, q, h3, h4⟩
    refine ⟨h1, ?_, q, h3, h4⟩
    cases hr : r.testBit j with
    | false => rfl
    | true =>
      have hne : j ≠ i := fun e => by
        subst e
        obtain rfl := Option.some.inj (hp.symm.trans h3)
        rw [hn] at h4
        cases h4
      rw [(hb j).2 ⟨hr, hne⟩] at h2
      cases h2
theorem Step1.take {pl : List Pl} {m r r' i : Nat} {c : UInt8} {h x : Nat} {p : Pl} (hs : Step1 pl m r c h x) (hb : ∀ j, r'.testBit j = true ↔ r.testBit j = true ∧ j ≠ i) (hi : r.testBit i = true) (hp : pl[i]? = some p) (hn : p.has c = true) : Step1 pl m r' c (h ||| 2 ^ i) (x ||| p.nx) := by
  have hbit : ∀ j, (h ||| 2 ^ i).testBit j = true ↔ h.testBit j = true ∨ j = i := fun j => by rw [or_bit, Nat.testBit_two_pow, decide_eq_true_eq]; exact ⟨fun h => h.imp id Eq.symm, fun h => h.imp id Eq.symm⟩
  refine ⟨fun j hj => hs.1 j ((hb j).1 hj).1, fun j => ?_, fun k => ?_⟩
  · rw [hbit, hs.2.1 j]
    constructor
    · rintro (⟨h1, h2, h3⟩ | rfl)
      · refine ⟨h1, ?_, h3⟩
        cases hr : r'.testBit j with
        | false => rfl
        | true => rw [((hb j).1 hr).1] at h2; cases h2
      · refine ⟨hs.1 j hi, ?_, p, hp, hn⟩
        cases hr : r'.testBit j with
        | false => rfl
        | true => exact absurd rfl ((hb j).1 hr).2
    · rintro ⟨h1, h2, h3⟩
      by_cases hne : j = i
      · exact .inr hne
      · refine .inl ⟨h1, ?_, h3⟩
        cases hr : r.testBit j with
        | false => rfl
        | true => rw [(hb j).2 ⟨hr, hne⟩] at h2; cases h2
  · rw [or_bit, hs.2.2 k]
    constructor
    · rintro (⟨j, q, h1, h2, h3⟩ | h1)
      · exact ⟨j, q, (hbit j).2 (.inl h1), h2, h3⟩
      · exact ⟨i, p, (hbit i).2 (.inr rfl), hp, h1⟩
    · rintro ⟨j, q, h1, h2, h3⟩
      rcases (hbit j).1 h1 with h1 | rfl
      · exact .inl ⟨j, q, h1, h2, h3⟩
      · obtain rfl := Option.some.inj (hp.symm.trans h2)
        exact .inr h3

set_option maxHeartbeats 2000000 in
theorem step_any (B xb : Nat) (v : Value) (P : Pc) (pl : List Pl) (m : Nat) (c : UInt8) (w : World) (hx : Rx w B xb v P pl) (hm : m < 18446744073709551616) (hb : ∀ j, m.testBit j = true → j < pl.length) (htab : TabW w) :
    Calls Tryz.prog 139 #[.pointer (some ⟨xb, 0, none⟩), .int .u64 m, .int .u8 c.toNat] w fun e w' => ∃ h x : Nat, e = .returned (.tuple #[.int .u64 h, .int .u64 x]) ∧ h < 18446744073709551616 ∧ x < 18446744073709551616 ∧ Hid (Stepped pl m c h x) ∧ w' = w := by
  have c0 := hx.blk.cell0
  go_enter Tryz.func139, Tryz.ntmps139
  go_wp2
  go_loop [1, 6, 7] (fun a b d => ∃ r h x : Nat, a = .int .u64 r ∧ b = .int .u64 h ∧ d = .int .u64 x ∧ r < 18446744073709551616 ∧ h < 18446744073709551616 ∧ x < 18446744073709551616 ∧ Hid (Step1 pl m r c h x)) (fun a _ _ => (intOf a).toNat)
  case atStart => exact ⟨m, 0, 0, rfl, rfl, rfl, hm, by omega, by omega, Lib.hid (Step1.start pl m c)⟩
  case round =>
    obtain ⟨r, h, x, rfl, rfl, rfl, hr, hh, hxx, HS⟩ := hrel
    by_cases h0 : r = 0
    · subst h0
      have HD := Lib.hid HS.out.done
      go_wp2
      go_ret2
      exact ⟨h, x, rfl, hh, hxx, HD, rfl⟩
    · obtain ⟨b1, b2, b3, b4⟩ := ctz_bits r h0 hr
      have HT := Lib.hid (tz_any r hr h0 w htab)
      have hil : Lib.ctz 64 r < pl.length := hb _ (HS.out.1 _ b2)
      have HP := Lib.hid (and_pred r hr h0)
      have hne : ((r : Int) != 0) = true := by simpa using h0
      have hgd := hx.good
      generalize Lib.ctz 64 r = i at *
      obtain ⟨g, cp, hv, hg1, hg2, hg3, hg4⟩ := hx.own.at (by omega)
      have c0' := c0
      rw [hv] at c0'
      have c4 := hg4 i hil 4 (by omega)
      simp only [plCells, List.getElem?_cons_succ, List.getElem?_cons_zero] at c4
      have hgi := hgd _ (List.getElem_mem hil)
      have hwa : WordsAt w g (i * 5) pl[i].W := fun j hj => by
        have := hg4 i hil j (by omega)
        rw [this]
        match j, hj with
        | 0, _ => rfl
        | 1, _ => rfl
        | 2, _ => rfl
        | 3, _ => rfl
      have HH := Lib.hid (has_any g (i * 5) pl[i].W c w hwa hgi.1)
      have hpi : pl[i]? = some pl[i] := List.getElem?_eq_getElem hil
      have hi5 : (i : Int) < (pl.length : Int) := by omega
      have HO1 := Lib.hid (or_shl h i hh b1)
      have HO2 := Lib.hid (u64_or_nat x pl[i].nx hxx hgi.2)
      have hh2 := or_lt hh (pow_lt64 b1)
      have hx2 := or_lt hxx hgi.2
      have HB := Lib.hid (And.intro b2 (And.intro b3 b4))
      have HPI := Lib.hid hpi
      cases hhas : pl[i].has c with
      | false =>
        have HS2 := Lib.hid (HS.out.skip b4 hpi hhas)
        rw [show hasW pl[i].W c = false from hhas] at HH
        clear hhas hpi hwa hgd hg3 hg4 b2 b3 b4 c0
        go_wp2_with (first | (go_at_call 156; refine HT.out.mono ?_; rintro e w' ⟨rfl, rfl⟩) | (go_at_call 157; refine HH.out.mono ?_; rintro e w' ⟨rfl, rfl⟩))
        obtain ⟨b2, b3, b4⟩ := HB.out
        rw [HP.out]
        exact ⟨⟨r &&& (r - 1), h, x, rfl, rfl, rfl, by omega, hh, hxx, HS2⟩, by simp [intOf]; omega⟩
      | true =>
        have HS2 := Lib.hid (HS.out.take b4 b2 hpi hhas)
        rw [show hasW pl[i].W c = true from hhas] at HH
        clear hhas hpi hwa hgd hg3 hg4 b2 b3 b4 c0
        go_wp2_with (first | (go_at_call 156; refine HT.out.mono ?_; rintro e w' ⟨rfl, rfl⟩) | (go_at_call 157; refine HH.out.mono ?_; rintro e w' ⟨rfl, rfl⟩))
        obtain ⟨b2, b3, b4⟩ := HB.out
        rw [HP.out, HO1.out, HO2.out]
        exact ⟨⟨r &&& (r - 1), h ||| 2 ^ i, x ||| pl[i].nx, rfl, rfl, rfl, by omega, hh2, hx2, HS2⟩, by simp [intOf]; omega⟩

set_option maxHeartbeats 400000 in
theorem match_nil (t : ByteArray) (w : World) : Calls Tryz.prog 127 #[.pointer none, .string t] w fun e w' => e = .returned (.bool false) ∧ w' = w := by
  go_enter Tryz.func127, Tryz.ntmps127
  go_wp2
  go_ret
  exact ⟨rfl, rfl⟩

theorem take_snoc (s : ByteArray) (k : Nat) (h : k < s.size) : s.data.toList.take (k + 1) = s.data.toList.take k ++ [s[k]] := by
  rw [List.take_succ_eq_append_getElem (by simpa using h)]; rfl

theorem size_zero {t : ByteArray} (h : t.size = 0) : t = ⟨#[]⟩ := by
  obtain ⟨d⟩ := t
  have : d = #[] := Array.eq_empty_of_size_eq_zero h
  rw [this]

/-- The places that may be next lie there. -/
theorem next_in {pl : List Pl} {P : Pc} {u : List UInt8} {m : Nat} (hf1 : ∀ i, P.first.testBit i = true → i < pl.length) (hn1 : ∀ (i : Nat) (p : Pl), pl[i]? = some p → ∀ j, p.nx.testBit j = true → j < pl.length) (h : Next pl P u m) (j : Nat) (hj : m.testBit j = true) : j < pl.length := by
  rcases (h j).1 hj with ⟨-, h1⟩ | ⟨i, k, p, -, -, h3, h4⟩
  · exact hf1 j h1
  · exact hn1 k p h3 j h4
theorem and_ne (a b : Nat) (ha : a < 18446744073709551616) (hb : b < 18446744073709551616) : (bits BinOp.and IntKind.u64 (a : Int) (b : Int) != 0) = decide (a &&& b ≠ 0) := by
  rw [u64_and_nat a b ha hb, Bool.eq_iff_iff]
  simp only [bne_iff_ne, ne_eq, decide_eq_true_eq]
  omega

/-- Whether something is so is told. -/
def Tells (A : Prop) (e : Ending) : Prop := ∃ b : Bool, e = .returned (.bool b) ∧ (b = true ↔ A)

set_option maxHeartbeats 2000000 in
theorem match_any (B xb : Nat) (v : Value) (P : Pc) (pl : List Pl) (t : ByteArray) (w : World) (hx : Rx w B xb v P pl) (hf1 : ∀ i, P.first.testBit i = true → i < pl.length) (hl1 : P.last < 18446744073709551616) (hn1 : ∀ (i : Nat) (p : Pl), pl[i]? = some p → ∀ j, p.nx.testBit j = true → j < pl.length) (hts : t.size ≤ 9223372036854775807) (htab : TabW w) :
    Calls Tryz.prog 127 #[.pointer (some ⟨xb, 0, none⟩), .string t] w fun e w' => Tells (Acc pl P t.data.toList) e ∧ w' = w := by
  have x1 := hx.blk.cell1
  have x2 := hx.blk.cell2
  have x3 := hx.blk.cell3
  by_cases h0 : t.size = 0
  · obtain rfl := size_zero h0
    go_enter Tryz.func127, Tryz.ntmps127
    go_wp2
    go_ret
    exact ⟨⟨P.empty, rfl, Acc.nil.symm⟩, rfl⟩
  · have hne0 : t.data.toList ≠ [] := fun e => h0 (by
      have h1 : t.data.toList.length = 0 := by rw [e]; rfl
      simpa using h1)
    have hne : t.toList.isEmpty = false := by
      rw [ByteArray.toList_eq, List.isEmpty_eq_false_iff]
      exact hne0
    have hfl : P.first < 18446744073709551616 := bit_lt (i := 64) fun j hj => by have := hf1 j hj; have := hx.lim; omega
    have HNE := Lib.hid hne0
    clear hne0
    go_enter Tryz.func127, Tryz.ntmps127
    go_wp2
    go_loop [5, 6, 24] (fun a b i => ∃ k n h : Nat, k ≤ t.size ∧ i = .int .i64 k ∧ a = .int .u64 n ∧ b = .int .u64 h ∧ n < 18446744073709551616 ∧ h < 18446744073709551616 ∧ Hid (Next pl P (t.data.toList.take k) n ∧ (0 < k → Here pl P (t.data.toList.take k) h))) (fun _ _ i => t.size - (intOf i).toNat)
    case atStart => exact ⟨0, P.first, 0, Nat.zero_le _, rfl, rfl, rfl, hfl, by omega, Lib.hid ⟨Next.start pl P, fun h => absurd h (by omega)⟩⟩
    case round =>
      obtain ⟨k, n, h, hk, rfl, rfl, rfl, hn, hh, HI⟩ := hrel
      by_cases hlt : k < t.size
      · have hki : (k : Int) < (t.size : Int) := by omega
        have HS := Lib.hid (step_any B xb v P pl n t[k] w hx hn (next_in hf1 hn1 HI.out.1) htab)
        have HT := Lib.hid (take_snoc t k hlt)
        go_wp2_with (go_at_call 139; refine HS.out.mono ?_; rintro e w' ⟨h', x', rfl, hh', hx', HST, rfl⟩; refine Hid.out ?_)
        refine Lib.hid ?_
        have hgo := HST.out.go HI.out.1
        rw [← HT.out] at hgo
        have HG := Lib.hid hgo
        clear hgo
        by_cases h1 : h' = 0
        · subst h1
          have HA : Hid (¬ Acc pl P t.data.toList) := Lib.hid (by
            have := HG.out.1.stuck (by
              rw [HT.out]
              simp) (t.data.toList.drop (k + 1))
            rwa [List.take_append_drop] at this)
          go_wp2
          go_ret
          exact ⟨⟨false, rfl, ⟨(fun e => by cases e), (fun e => absurd e HA.out)⟩⟩, rfl⟩
        · have hz : ((h' : Int) == 0) = false := by simpa using h1
          go_wp2
          go_round
          case rel => exact ⟨k + 1, x', h', by omega, by go_num, rfl, rfl, hx', hh', Lib.hid ⟨HG.out.2, fun _ => HG.out.1⟩⟩
          case measure => simp [intOf]; omega
      · obtain rfl : k = t.size := by omega
        have HA : Hid (h &&& P.last ≠ 0 ↔ Acc pl P t.data.toList) := Lib.hid (by
          have := HI.out.2 (by omega)
          rw [List.take_of_length_le (by simp)] at this
          exact this.acc HNE.out)
        have HV := Lib.hid (and_ne h P.last hh hl1)
        go_wp2
        go_ret
        exact ⟨⟨_, rfl, by rw [HV.out, decide_eq_true_eq]; exact HA.out⟩, rfl⟩

theorem match_pat (xb : Nat) (A : Lang) (t : ByteArray) (w : World) (h : PatAt w xb A) (hts : t.size ≤ 9223372036854775807) (htab : TabW w) :
    Calls Tryz.prog 127 #[.pointer (some ⟨xb, 0, none⟩), .string t] w fun e w' => Tells (A t.data.toList) e ∧ w' = w := by
  obtain ⟨B, v, P, pl, hx, hf⟩ := h
  refine (match_any B xb v P pl t w hx (fun i hi => (hf.first i hi).2) (bit_lt (i := 64) fun j hj => by have := (hf.last j hj).2; have := hx.lim; omega) (fun i p hp j hj => (hf.next i p (Nat.zero_le _) (List.getElem?_eq_some_iff.1 hp).1 hp j hj).2) hts htab).mono fun e w' ⟨⟨b, h1, h2⟩, h3⟩ => ⟨⟨b, h1, h2.trans (hf.lang _)⟩, h3⟩

/-- What a pattern is: its error, and what is like it. -/
def errE (l : List UInt8) : Int := if 64 < l.length then 5 else if (pParse l).isNone = true then 9 else 0
theorem errE_zero {l : List UInt8} (h : errE l = 0) : l.length ≤ 64 ∧ ∃ A, pParse l = some A := by
  unfold errE at h
  split at h
  · omega
  · split at h
    · omega
    · rename_i h1 h2
      refine ⟨by omega, ?_⟩
      cases hp : pParse l with
      | none => rw [hp] at h2; exact absurd rfl h2
      | some A => exact ⟨A, rfl⟩
theorem errE_of {l : List UInt8} {A : Lang} (hl : l.length ≤ 64) (h : pParse l = some A) : errE l = 0 := by
  unfold errE
  rw [if_neg (by omega), h]
  rfl

/-- A call of Compile: its error alone where there is one. -/
theorem comp_err (s : ByteArray) (w : World) (htab : TabW w) (he : errE s.data.toList ≠ 0) :
    Calls Tryz.prog 126 #[.string s] w fun e w' => e = .returned (.tuple #[.pointer none, .int .i64 (errE s.data.toList)]) ∧ Below w.heap.size w w' := by
  have hl : s.data.toList.length = s.size := by simp
  unfold errE at he ⊢
  rw [hl] at he ⊢
  by_cases h1 : 64 < s.size
  · rw [if_pos h1]
    exact (comp_long s w h1).mono fun e w' ⟨h2, h3⟩ => ⟨h2, by rw [h3]; exact Below.refl _ _⟩
  · rw [if_neg h1] at he ⊢
    cases hp : pParse s.data.toList with
    | none => exact comp_bad s w (by omega) htab hp
    | some A => rw [hp] at he; exact absurd rfl he

set_option maxHeartbeats 400000 in
theorem like_err (s t : ByteArray) (w : World) (htab : TabW w) (he : errE s.data.toList ≠ 0) :
    Calls Tryz.prog 111 #[.string s, .string t] w fun e w' => e = .returned (.tuple #[.bool false, .int .i64 (errE s.data.toList)]) ∧ Below w.heap.size w w' := by
  have HC := Lib.hid (comp_err s w htab he)
  generalize errE s.data.toList = E at *
  have hb : ((E : Int) != 0) = true := by simpa using he
  clear htab he
  go_enter Tryz.func111, Tryz.ntmps111
  go_wp2_with (go_at_call 126; refine HC.out.mono ?_; rintro e w1 ⟨rfl, hb1⟩)
  go_ret2
  exact ⟨rfl, hb1⟩

/-- Whether something is so is told, with no error. -/
def Tells2 (A : Prop) (e : Ending) : Prop := ∃ b : Bool, e = .returned (.tuple #[.bool b, .int .i64 0]) ∧ (b = true ↔ A)

set_option maxHeartbeats 400000 in
theorem like_good (s t : ByteArray) (w : World) (hs : s.size ≤ 64) (htab : TabW w) (A : Lang) (ho : pParse s.data.toList = some A) (hts : t.size ≤ 9223372036854775807) :
    Calls Tryz.prog 111 #[.string s, .string t] w fun e w' => Tells2 (A t.data.toList) e ∧ Below w.heap.size w w' := by
  have HC := Lib.hid (comp_good s w hs htab A ho)
  have htl := htab.lt
  clear ho hs
  go_enter Tryz.func111, Tryz.ntmps111
  go_wp2_with (go_at_call 126; refine HC.out.mono ?_; rintro e w1 ⟨xb, rfl, hp, hb1⟩; refine Hid.out ?_)
  refine Lib.hid ?_
  have HM := Lib.hid (match_pat xb A t w1 hp hts (htab.on hb1 htl))
  go_wp2_with (go_at_call 127; refine HM.out.mono ?_; rintro e w2 ⟨⟨b, rfl, hb⟩, rfl⟩; have HB := Lib.hid hb; clear hb)
  go_ret2
  exact ⟨⟨b, rfl, HB.out⟩, hb1⟩

end Go.Proofs.YtmanjegdgjeeiaaGreatDoor
namespace Go.Proofs.YtmanjegdgjeeiaaGreatDoor
open Go.RowKit

/-- None of the first k pairs has this name. -/
theorem getV_skip (ps : List Pr) (n : List UInt8) (k : Nat) (hk : k ≤ ps.length) (h : ∀ j, j < k → ∀ hj : j < ps.length, nm ps[j] ≠ n) : getV ps n = getV (ps.drop k) n := by
  induction k with
  | zero => simp
  | succ k ih =>
    rw [ih (by omega) (fun j hj => h j (by omega)), List.drop_eq_getElem_cons (by omega : k < ps.length)]
    unfold getV
    rw [List.find?_cons]
    have := h k (by omega) (by omega)
    simp only [beq_eq_false_iff_ne.2 this]
theorem getV_hit (ps : List Pr) (n : List UInt8) (k : Nat) (hk : k < ps.length) (h : ∀ j, j < k → ∀ hj : j < ps.length, nm ps[j] ≠ n) (he : nm ps[k] = n) : getV ps n = ps[k].2 := by
  rw [getV_skip ps n k (by omega) h, List.drop_eq_getElem_cons hk]
  unfold getV
  rw [List.find?_cons]
  simp only [beq_iff_eq.2 he]

set_option maxHeartbeats 1000000 in
theorem Get_any (a : Option Addr) (c : Nat) (ps : List Pr) (s : ByteArray) (w : World) (h : PairsAt w a ps) (hn : ps.length ≤ 9223372036854775807) (n : Nat) (hnl : n = ps.length) :
    Calls Tryz.prog 110 #[.slice a n c, .string s] w fun e w' => e = .returned (.string (getV ps s.toList)) ∧ Below w.heap.size w w' := by
  subst hnl
  go_enter Tryz.func110, Tryz.ntmps110
  go_wp2
  go_loopw [9] (fun i wr => ∃ k : Nat, k ≤ ps.length ∧ i = .int .i64 k ∧ Below w.heap.size w wr ∧ ∀ j, j < k → ∀ hj : j < ps.length, nm ps[j] ≠ s.toList) (fun i _ => ps.length - (intOf i).toNat)
  case atStart => exact ⟨0, Nat.zero_le _, rfl, Below.refl _ _, fun j hj => absurd hj (Nat.not_lt_zero _)⟩
  case round =>
    obtain ⟨k, hk, rfl, hb, hall⟩ := hrel
    by_cases hlt : k < ps.length
    · have hkl : (k : Int) < (ps.length : Int) := by omega
      obtain ⟨b, o, rfl, hc⟩ := h (by omega)
      obtain ⟨hc1, hc2⟩ := hc k hlt
      rw [← hb.cell (p := ⟨b, o + k * 2, none⟩) (World.block_lt_of_cell? w _ hc1)] at hc1
      rw [← hb.cell (p := ⟨b, o + k * 2 + 1, none⟩) (World.block_lt_of_cell? w _ hc2)] at hc2
      have hs := hb.size
      clear hc h
      by_cases hE : nm ps[k] = s.toList
      · have hE' : (ps[k].1.toList == s.toList) = true := beq_iff_eq.2 hE
        have HV := Lib.hid (getV_hit ps s.toList k hlt hall hE)
        clear hall hE
        go_wp2
        go_ret
        exact ⟨by rw [HV.out]; rfl, hb.alloc hs _⟩
      · have hE' : (ps[k].1.toList == s.toList) = false := beq_eq_false_iff_ne.2 hE
        have HA := Lib.hid (upto_succ hall fun _ => hE)
        clear hall hE
        go_wp2
        go_roundw
        case rel => exact ⟨k + 1, by omega, by go_num, hb.alloc hs _, HA.out⟩
        case measure => simp [intOf]; omega
    · obtain rfl : k = ps.length := by omega
      have HV : Hid (getV ps s.toList = ⟨#[]⟩) := by
        rw [getV_skip ps s.toList ps.length (Nat.le_refl _) hall, List.drop_length]
        exact rfl
      clear hall
      go_wp2
      go_ret
      exact ⟨by rw [HV.out]; rfl, hb⟩

end Go.Proofs.YtmanjegdgjeeiaaGreatDoor
namespace Go.Proofs.YtmanjegdgjeeiaaGreatDoor

/-- A matcher: its name, its comparison, its value. -/
abbrev Mt := ByteArray × Nat × ByteArray
/-- A text is like a pattern. -/
def likeP (p t : List UInt8) : Prop := ∃ A, pParse p = some A ∧ A t
/-- Which error a matcher has. -/
def mErr (m : Mt) : Int := if ¬ NameOk m.1 then 6 else if 3 < m.2.1 then 2 else if 64 < m.2.2.size then 5 else if 2 ≤ m.2.1 then errE m.2.2.data.toList else 0
/-- What a matcher asks of a value. -/
def mHas (m : Mt) (v : ByteArray) : Prop := (m.2.1 = 0 ∧ v.toList = m.2.2.toList) ∨ (m.2.1 = 1 ∧ v.toList ≠ m.2.2.toList) ∨ (m.2.1 = 2 ∧ likeP m.2.2.data.toList v.data.toList) ∨ (m.2.1 = 3 ∧ ¬ likeP m.2.2.data.toList v.data.toList)
/-- Labels are as a matcher asks. -/
def mAsk (ps : List Pr) (m : Mt) : Prop := mErr m = 0 ∧ mHas m (getV ps m.1.toList)

theorem mErr_zero {m : Mt} (h : mErr m = 0) : NameOk m.1 ∧ m.2.1 ≤ 3 ∧ m.2.2.size ≤ 64 ∧ (2 ≤ m.2.1 → errE m.2.2.data.toList = 0) := by
  unfold mErr at h
  split at h
  · cases h
  · rename_i h1
    split at h
    · cases h
    · split at h
      · cases h
      · refine ⟨Classical.not_not.1 h1, by omega, by omega, fun h2 => ?_⟩
        rw [if_pos h2] at h
        exact h
theorem likeP_of {p : List UInt8} {A : Lang} (h : pParse p = some A) (t : List UInt8) : likeP p t ↔ A t :=
  ⟨fun ⟨B, h1, h2⟩ => by rw [h] at h1; obtain rfl := Option.some.inj h1; exact h2, fun h2 => ⟨A, h, h2⟩⟩

/-- Of a matcher that may be, and the one that asks the contrary, just one is so. -/
def mNot (m : Mt) : Mt := (m.1, m.2.1 ^^^ 1, m.2.2)
theorem xor_one (n : Nat) (h : n ≤ 3) : (n = 0 ∧ n ^^^ 1 = 1) ∨ (n = 1 ∧ n ^^^ 1 = 0) ∨ (n = 2 ∧ n ^^^ 1 = 3) ∨ (n = 3 ∧ n ^^^ 1 = 2) := by
  rcases (by omega : n = 0 ∨ n = 1 ∨ n = 2 ∨ n = 3) with rfl | rfl | rfl | rfl <;> decide
theorem mErr_not {m : Mt} (h : mErr m = 0) : mErr (mNot m) = 0 := by
  obtain ⟨h1, h2, h3, h4⟩ := mErr_zero h
  unfold mErr mNot
  rw [if_neg (Classical.not_not.2 h1)]
  have hx := xor_one m.2.1 h2
  simp only
  rw [if_neg (by omega), if_neg (by omega)]
  split
  · exact h4 (by omega)
  · rfl
theorem mAsk_not {m : Mt} (ps : List Pr) (h : mErr m = 0) : mAsk ps (mNot m) ↔ ¬ mAsk ps m := by
  obtain ⟨-, h2, -, -⟩ := mErr_zero h
  have h5 := mErr_not h
  unfold mAsk
  simp only [h, h5, true_and]
  show mHas (mNot m) (getV ps m.1.toList) ↔ _
  obtain ⟨n, o, v⟩ := m
  simp only at h2
  unfold mHas mNot
  rcases (by omega : o = 0 ∨ o = 1 ∨ o = 2 ∨ o = 3) with rfl | rfl | rfl | rfl <;> simp

end Go.Proofs.YtmanjegdgjeeiaaGreatDoor
namespace Go.Proofs.YtmanjegdgjeeiaaGreatDoor
open Go.RowKit

/-- A matcher as a value. -/
def encM (m : Mt) : List Value := [.string m.1, .int .u8 (m.2.1 : Int), .string m.2.2]

set_option maxHeartbeats 1000000 in
theorem mCheck_any (n : ByteArray) (o : Nat) (v : ByteArray) (w : World) (htab : TabW w) :
    Calls Tryz.prog 107 #[.agg #[.string n, .int .u8 (o : Int), .string v]] w fun e w' => e = .returned (.int .i64 (mErr (n, o, v))) ∧ Below w.heap.size w w' := by
  have HN := Lib.hid (fun u => Name_any n u)
  have htl := htab.lt
  unfold mErr
  by_cases h1 : NameOk n
  · rw [decide_eq_true h1] at HN
    rw [if_neg (Classical.not_not.2 h1)]
    clear h1
    by_cases h2 : 3 < o
    · rw [if_pos h2]
      have h2' : (3 : Int) < (o : Int) := by omega
      clear h2
      go_enter Tryz.func107, Tryz.ntmps107
      go_wp2_with (go_at_call 76; refine (HN.out _).mono ?_; rintro e w1 ⟨rfl, rfl⟩)
      go_ret
      exact ⟨rfl, (Below.refl _ _).alloc (Nat.le_refl _) _⟩
    · rw [if_neg h2]
      have h2' : ¬ (3 : Int) < (o : Int) := by omega
      by_cases h3 : 64 < v.size
      · rw [if_pos h3]
        have h3' : (64 : Int) < (v.size : Int) := by omega
        clear h2 h3
        go_enter Tryz.func107, Tryz.ntmps107
        go_wp2_with (go_at_call 76; refine (HN.out _).mono ?_; rintro e w1 ⟨rfl, rfl⟩)
        go_ret
        exact ⟨rfl, (Below.refl _ _).alloc (Nat.le_refl _) _⟩
      · rw [if_neg h3]
        have h3' : ¬ (64 : Int) < (v.size : Int) := by omega
        by_cases h4 : 2 ≤ o
        · rw [if_pos h4]
          have hT := Lib.hid (fun (o : Obj) => htab.on ((Below.refl w.heap.size w).alloc (Nat.le_refl _) o) htl)
          by_cases h5 : errE v.data.toList = 0
          · rw [h5]
            obtain ⟨h6, A, hA⟩ := errE_zero h5
            have HC := Lib.hid (fun u (hu : TabW u) => comp_good v u (by omega) hu A hA)
            clear h5 hA
            rcases (by omega : o = 2 ∨ o = 3) with rfl | rfl
            all_goals
              clear h4 h3 h2
              go_enter Tryz.func107, Tryz.ntmps107
              go_wp2_with (first | (go_at_call 76; refine (HN.out _).mono ?_; rintro e w1 ⟨rfl, rfl⟩) | (go_at_call 126; refine (HC.out _ (hT.out _)).mono ?_; rintro e w1 ⟨xb, rfl, hp, hb1⟩))
              go_ret
              exact ⟨rfl, ((Below.refl _ _).alloc (Nat.le_refl _) _).trans (hb1.mono (by simp))⟩
          · have HC := Lib.hid (fun u (hu : TabW u) => comp_err v u hu h5)
            generalize errE v.data.toList = E at *
            clear h5
            rcases (by omega : o = 2 ∨ o = 3) with rfl | rfl
            all_goals
              clear h4 h3 h2
              go_enter Tryz.func107, Tryz.ntmps107
              go_wp2_with (first | (go_at_call 76; refine (HN.out _).mono ?_; rintro e w1 ⟨rfl, rfl⟩) | (go_at_call 126; refine (HC.out _ (hT.out _)).mono ?_; rintro e w1 ⟨rfl, hb1⟩))
              go_ret
              exact ⟨rfl, ((Below.refl _ _).alloc (Nat.le_refl _) _).trans (hb1.mono (by simp))⟩
        · rw [if_neg h4]
          rcases (by omega : o = 0 ∨ o = 1) with rfl | rfl
          all_goals
            clear h4 h3 h2
            go_enter Tryz.func107, Tryz.ntmps107
            go_wp2_with (go_at_call 76; refine (HN.out _).mono ?_; rintro e w1 ⟨rfl, rfl⟩)
            go_ret
            exact ⟨rfl, (Below.refl _ _).alloc (Nat.le_refl _) _⟩
  · rw [decide_eq_false h1] at HN
    rw [if_pos h1]
    clear h1
    go_enter Tryz.func107, Tryz.ntmps107
    go_wp2_with (go_at_call 76; refine (HN.out _).mono ?_; rintro e w1 ⟨rfl, rfl⟩)
    go_ret
    exact ⟨rfl, (Below.refl _ _).alloc (Nat.le_refl _) _⟩


theorem mAsk_no {ps : List Pr} {m : Mt} (h : mErr m ≠ 0) : ¬ mAsk ps m := fun k => h k.1
theorem tells_of {A : Prop} {b : Bool} (h : b = true ↔ A) : Tells A (.returned (.bool b)) := ⟨b, rfl, h⟩

/-- A matcher in a block. -/
def MtBlk (w : World) (b : Nat) (m : Mt) : Prop := w.heap[b]? = some (.cells #[.string m.1, .int .u8 (m.2.1 : Int), .string m.2.2] 117 (0, 0))
theorem MtBlk.lt {w : World} {b : Nat} {m : Mt} (h : MtBlk w b m) : b < w.heap.size := (Array.getElem?_eq_some_iff.1 h).1
theorem MtBlk.below {w w' : World} {b : Nat} {m : Mt} (h : MtBlk w b m) (hb : Below w.heap.size w w') : MtBlk w' b m := (hb.block b h.lt).trans h
theorem MtBlk.cell0 {w : World} {b : Nat} {m : Mt} (h : MtBlk w b m) : w.cell? ⟨b, 0, none⟩ = some (.string m.1) := by unfold MtBlk at h; simp [World.cell?, h]
theorem MtBlk.cell1 {w : World} {b : Nat} {m : Mt} (h : MtBlk w b m) : w.cell? ⟨b, 1, none⟩ = some (.int .u8 (m.2.1 : Int)) := by unfold MtBlk at h; simp [World.cell?, h]
theorem MtBlk.cell2 {w : World} {b : Nat} {m : Mt} (h : MtBlk w b m) : w.cell? ⟨b, 2, none⟩ = some (.string m.2.2) := by unfold MtBlk at h; simp [World.cell?, h]

set_option maxRecDepth 20000 in
set_option maxHeartbeats 2000000 in
theorem mOne_any (n : ByteArray) (o : Nat) (v : ByteArray) (a : Option Addr) (c : Nat) (ps : List Pr) (w : World) (htab : TabW w) (h : PairsAt w a ps) (hn : ps.length ≤ 9223372036854775807) (hv : ∀ p ∈ ps, p.2.size ≤ 9223372036854775807) (k : Nat) (hk : k = ps.length) :
    Calls Tryz.prog 79 #[.agg #[.string n, .int .u8 (o : Int), .string v], .slice a k c] w fun e w' => Tells (mAsk ps (n, o, v)) e ∧ Below w.heap.size w w' := by
  subst hk
  have HC := Lib.hid (fun u (hu : TabW u) => mCheck_any n o v u hu)
  have htl := htab.lt
  have hbA := Lib.hid (fun (o : Obj) => (Below.refl w.heap.size w).alloc (Nat.le_refl _) o)
  have hT := Lib.hid (fun (o : Obj) => htab.on (hbA.out o) htl)
  by_cases he : mErr (n, o, v) = 0
  · rw [he] at HC
    obtain ⟨-, ho, h64, hE⟩ := mErr_zero he
    simp only at ho h64 hE
    have hA : mAsk ps (n, o, v) ↔ mHas (n, o, v) (getV ps n.toList) := by unfold mAsk; simp [he]
    have hvg : (getV ps n.toList).size ≤ 9223372036854775807 := by
      unfold getV
      split
      · rename_i p hp
        exact hv p (List.mem_of_find?_eq_some hp)
      · decide
    have HG := Lib.hid (fun u (hu : PairsAt u a ps) => Get_any a c ps n u hu hn _ rfl)
    generalize getV ps n.toList = V at *
    simp only [hA]
    clear hA hv
    go_enter Tryz.func79, Tryz.ntmps79
    go_wp2_with (go_at_call 107; refine (HC.out _ (hT.out _)).mono ?_; rintro e w1 ⟨rfl, hb1⟩; refine Hid.out ?_)
    refine Lib.hid ?_
    have hb1' := (hbA.out _).trans (hb1.mono (by simp))
    have HG1 := Lib.hid (HG.out w1 (h.below hb1' (Nat.le_refl _)))
    have hm0 : MtBlk w1 w.heap.size (n, o, v) := (hb1.block w.heap.size (by simp)).trans (heap_new w _)
    have c0 : w1.cell? ⟨w.heap.size, 0, none⟩ = some (.string n) := hm0.cell0
    go_wp2_with (go_at_call 110; refine HG1.out.mono ?_; rintro e w2 ⟨rfl, hb2⟩; refine Hid.out ?_)
    refine Lib.hid ?_
    have hb2' := hb1'.trans (hb2.mono hb1'.size)
    have hm2 : MtBlk w2 w.heap.size (n, o, v) := (hb2.block w.heap.size hm0.lt).trans hm0
    have c1 : w2.cell? ⟨w.heap.size, 1, none⟩ = some (.int .u8 (o : Int)) := hm2.cell1
    have c2 : w2.cell? ⟨w.heap.size, 2, none⟩ = some (.string v) := hm2.cell2
    clear c0 HG HG1 HC hb1 hm0 hb2 hbA
    rcases (by omega : o = 0 ∨ o = 1 ∨ o = 2 ∨ o = 3) with rfl | rfl | rfl | rfl
    · have HF : Hid ((V.toList == v.toList) = true ↔ mHas (n, 0, v) V) := Lib.hid (by unfold mHas; simp)
      go_wp2_with fail
      go_ret
      exact ⟨tells_of HF.out, hb2'⟩
    · have HF : Hid ((V.toList != v.toList) = true ↔ mHas (n, 1, v) V) := Lib.hid (by unfold mHas; simp)
      go_wp2_with fail
      go_ret
      exact ⟨tells_of HF.out, hb2'⟩
    all_goals
      obtain ⟨h6, A, hA⟩ := errE_zero (hE (by decide))
      have HL := Lib.hid (like_good v V w2 h64 (htab.on hb2' htl) A hA hvg)
      have HP := Lib.hid (likeP_of hA V.data.toList)
      clear hA hE h6 hT htab
    · go_wp2_with (go_at_call 111; refine HL.out.mono ?_; rintro e w3 ⟨⟨b, rfl, hb⟩, hb3⟩; have HB := Lib.hid hb; clear hb; refine Hid.out ?_)
      refine Lib.hid ?_
      have c1' : w3.cell? ⟨w.heap.size, 1, none⟩ = some (.int .u8 2) := (hb3.cell (p := ⟨w.heap.size, 1, none⟩) hm2.lt).trans c1
      clear c1 c2 HL
      go_wp2_with fail
      go_ret
      refine ⟨tells_of ?_, hb2'.trans (hb3.mono hb2'.size)⟩
      unfold mHas
      simp [HP.out, HB.out]
    · go_wp2_with (go_at_call 111; refine HL.out.mono ?_; rintro e w3 ⟨⟨b, rfl, hb⟩, hb3⟩; have HB := Lib.hid hb; clear hb; refine Hid.out ?_)
      refine Lib.hid ?_
      have c1' : w3.cell? ⟨w.heap.size, 1, none⟩ = some (.int .u8 3) := (hb3.cell (p := ⟨w.heap.size, 1, none⟩) hm2.lt).trans c1
      clear c1 c2 HL
      go_wp2_with fail
      go_ret
      refine ⟨tells_of ?_, hb2'.trans (hb3.mono hb2'.size)⟩
      unfold mHas
      simp [HP.out, ← HB.out]
  · have HN := Lib.hid (mAsk_no (ps := ps) he)
    have hb : ((mErr (n, o, v) : Int) != 0) = true := by simpa using he
    generalize mErr (n, o, v) = Er at *
    clear he
    go_enter Tryz.func79, Tryz.ntmps79
    go_wp2_with (go_at_call 107; refine (HC.out _ (hT.out _)).mono ?_; rintro e w1 ⟨rfl, hb1⟩)
    go_ret
    exact ⟨⟨false, rfl, by simpa using HN.out⟩, (hbA.out _).trans (hb1.mono (by simp))⟩

end Go.Proofs.YtmanjegdgjeeiaaGreatDoor
namespace Go.Proofs
open Go.Shelf
def Tryz.lIdxFunc_ren : Go.Shelf.Ren := ⟨fun | 6 => 105 | n => n, fun | 22 => 48 | 23 => 117 | 25 => 119 | 3 => 3 | 0 => 0 | 4 => 4 | n => n, fun | n => n⟩
theorem Tryz.lIdxFunc : Go.Proofs.SlLaysH0.n6 Tryz.prog Tryz.lIdxFunc_ren := {
  mixed := by kernel_rfl
  f6 := ⟨Tryz.f105.name, by decide, Tryz.func105.trans (congrArg some (by kernel_rfl))⟩
  t0 := Tryz.underlying0
  a0 := Tryz.isAgg0
  z0 := Tryz.sizeOf0
  v0 := Tryz.zeroValue0
  t3 := Tryz.underlying3
  a3 := Tryz.isAgg3
  z3 := Tryz.sizeOf3
  v3 := Tryz.zeroValue3
  t4 := Tryz.underlying4
  a4 := Tryz.isAgg4
  z4 := Tryz.sizeOf4
  v4 := Tryz.zeroValue4
  t22 := Tryz.underlying48
  a22 := Tryz.isAgg48
  z22 := Tryz.sizeOf48
  v22 := Tryz.zeroValue48
  t25 := Tryz.underlying119
  a25 := Tryz.isAgg119
  z25 := Tryz.sizeOf119
  v25 := Tryz.zeroValue119 }
def Tryz.lHasFunc_ren : Go.Shelf.Ren := ⟨fun | 8 => 77 | 6 => 105 | n => n, fun | 22 => 48 | 23 => 117 | 25 => 119 | 4 => 4 | 3 => 3 | 0 => 0 | n => n, fun | n => n⟩
theorem Tryz.lHasFunc : Go.Proofs.SlLaysH0.n8 Tryz.prog Tryz.lHasFunc_ren := {
  mixed := by kernel_rfl
  f6 := ⟨Tryz.f105.name, by decide, Tryz.func105.trans (congrArg some (by kernel_rfl))⟩
  f8 := ⟨Tryz.f77.name, by decide, Tryz.func77.trans (congrArg some (by kernel_rfl))⟩
  t0 := Tryz.underlying0
  a0 := Tryz.isAgg0
  z0 := Tryz.sizeOf0
  v0 := Tryz.zeroValue0
  t3 := Tryz.underlying3
  a3 := Tryz.isAgg3
  z3 := Tryz.sizeOf3
  v3 := Tryz.zeroValue3
  t4 := Tryz.underlying4
  a4 := Tryz.isAgg4
  z4 := Tryz.sizeOf4
  v4 := Tryz.zeroValue4
  t22 := Tryz.underlying48
  a22 := Tryz.isAgg48
  z22 := Tryz.sizeOf48
  v22 := Tryz.zeroValue48
  t25 := Tryz.underlying119
  a25 := Tryz.isAgg119
  z25 := Tryz.sizeOf119
  v25 := Tryz.zeroValue119 }
end Go.Proofs
namespace Go.Proofs.YtmanjegdgjeeiaaGreatDoor
open Go.RowKit Go.Shelf

/-- Matchers lie at an address; where there are none, anywhere. -/
def MtsAt (w : World) (a : Option Addr) (ms : List Mt) : Prop :=
  0 < ms.length → ∃ b o, a = some ⟨b, o, none⟩ ∧ b < w.heap.size ∧ ∀ i (hi : i < ms.length), w.cell? ⟨b, o + i * 3, none⟩ = some (.string ms[i].1) ∧ w.cell? ⟨b, o + i * 3 + 1, none⟩ = some (.int .u8 (ms[i].2.1 : Int)) ∧ w.cell? ⟨b, o + i * 3 + 2, none⟩ = some (.string ms[i].2.2)
theorem MtsAt.below {w w' : World} {a : Option Addr} {ms : List Mt} {B : Nat} (h : MtsAt w a ms) (hb : Below B w w') (hB : w.heap.size ≤ B) : MtsAt w' a ms := fun hn => by
  obtain ⟨b, o, rfl, hbl, hc⟩ := h hn
  refine ⟨b, o, rfl, Nat.lt_of_lt_of_le hbl hb.size, fun i hi => ?_⟩
  obtain ⟨h1, h2, h3⟩ := hc i hi
  have hl : b < B := Nat.lt_of_lt_of_le hbl hB
  exact ⟨by rw [hb.cell (p := ⟨b, o + i * 3, none⟩) hl]; exact h1, by rw [hb.cell (p := ⟨b, o + i * 3 + 1, none⟩) hl]; exact h2, by rw [hb.cell (p := ⟨b, o + i * 3 + 2, none⟩) hl]; exact h3⟩
theorem MtsAt.cells {w : World} {b o : Nat} {ms : List Mt} (h : ∀ i (hi : i < ms.length), w.cell? ⟨b, o + i * 3, none⟩ = some (.string ms[i].1) ∧ w.cell? ⟨b, o + i * 3 + 1, none⟩ = some (.int .u8 (ms[i].2.1 : Int)) ∧ w.cell? ⟨b, o + i * 3 + 2, none⟩ = some (.string ms[i].2.2)) :
    ∀ j, j < ms.length → ∀ i v, (encM ms[j]!)[i]? = some v → w.cell? ⟨b, o + j * 3 + i, none⟩ = some v := fun j hj i v hv => by
  obtain ⟨h1, h2, h3⟩ := h j hj
  rw [getElem!_pos ms j hj] at hv
  match i, hv with
  | 0, hv => simp [encM] at hv; rw [← hv]; exact h1
  | 1, hv => simp [encM] at hv; rw [← hv]; exact h2
  | 2, hv => simp [encM] at hv; rw [← hv]; exact h3
  | i + 3, hv => simp [encM] at hv

set_option maxHeartbeats 1000000 in
theorem idx_none (a : Option Addr) (c : Nat) (fv : Value) (w : World) : Calls Tryz.prog 105 #[.slice a 0 c, fv] w fun e w' => e = .returned (.int .i64 (-1)) ∧ w' = w := by
  go_enter Tryz.func105, Tryz.ntmps105
  go_wp2
  go_loopg [5, 8] 0 (fun _ _ s8 wr => s8 = .int .i64 0 ∧ wr = w)
  case atStart => exact ⟨rfl, rfl⟩
  case round =>
    obtain ⟨rfl, rfl⟩ := hrel
    go_wp2
    go_ret
    exact ⟨rfl, rfl⟩
set_option maxHeartbeats 1000000 in
theorem has_none (a : Option Addr) (c : Nat) (fv : Value) (w : World) : Calls Tryz.prog 77 #[.slice a 0 c, fv] w fun e w' => e = .returned (.bool false) ∧ w' = w := by
  have HI := Lib.hid (fun u => idx_none a c fv u)
  go_enter Tryz.func77, Tryz.ntmps77
  go_wp2_with (go_at_call 105; refine (HI.out _).mono ?_; rintro e w' ⟨rfl, rfl⟩)
  go_ret
  exact ⟨rfl, rfl⟩

set_option maxHeartbeats 1000000 in
theorem notOne_any (B : Nat) (a : Option Addr) (c : Nat) (ps : List Pr) (p : Mt → Bool) (hp : ∀ x, p x = true ↔ ¬ mAsk ps x) (w : World) (htab : TabW w) (h : PairsAt w a ps) (hn : ps.length ≤ 9223372036854775807) (hv : ∀ q ∈ ps, q.2.size ≤ 9223372036854775807) (hB : B < w.heap.size) (hc : w.cell? ⟨B, 0, none⟩ = some (.slice a ps.length c)) :
    PredBelow Tryz.prog 78 #[.pointer (some ⟨B, 0, none⟩)] (fun x => .agg (encM x).toArray) p w := fun W x hb => by
  obtain ⟨n, o, v⟩ := x
  have htl := htab.lt
  have hA := hb.alloc hb.size (.cells #[.string n, .int .u8 (o : Int), .string v] 117)
  have hcA : (W.alloc (.cells #[.string n, .int .u8 (o : Int), .string v] 117)).cell? ⟨B, 0, none⟩ = some (.slice a ps.length c) := (hA.cell (p := ⟨B, 0, none⟩) hB).trans hc
  have HO := Lib.hid (mOne_any n o v a c ps (W.alloc (.cells #[.string n, .int .u8 (o : Int), .string v] 117)) (htab.on hA htl) (h.below hA (Nat.le_refl _)) hn hv _ rfl)
  have HP := Lib.hid (hp (n, o, v))
  clear h htab hv hp
  show Calls Tryz.prog 78 #[.agg #[.string n, .int .u8 (o : Int), .string v], .pointer (some ⟨B, 0, none⟩)] W _
  go_enter Tryz.func78, Tryz.ntmps78
  go_wp2_with (go_at_call 79; refine HO.out.mono ?_; rintro e w1 ⟨⟨b, rfl, hb1⟩, q1⟩; have HB := Lib.hid hb1; clear hb1)
  go_ret
  refine ⟨?_, hA.trans (q1.mono hA.size)⟩
  have e : (!b) = p (n, o, v) := by
    have k1 := HB.out
    have k2 := HP.out
    cases b <;> cases hq : p (n, o, v) <;> simp_all
  rw [← e]
  rfl

set_option maxHeartbeats 2000000 in
theorem mAll_any (a : Option Addr) (c : Nat) (ms : List Mt) (b : Option Addr) (d : Nat) (ps : List Pr) (w : World) (htab : TabW w) (hm : MtsAt w a ms) (hml : ms.length ≤ 9223372036854775807) (h : PairsAt w b ps) (hn : ps.length ≤ 9223372036854775807) (hv : ∀ q ∈ ps, q.2.size ≤ 9223372036854775807) (k : Nat) (hk : k = ms.length) :
    Calls Tryz.prog 41 #[.slice a k c, .slice b ps.length d] w fun e w' => Tells (∀ m ∈ ms, mAsk ps m) e ∧ Below w.heap.size w w' := by
  subst hk
  have htl := htab.lt
  have hA := (Below.refl w.heap.size w).alloc (Nat.le_refl _) (.cells #[.slice b ps.length d] 40)
  by_cases h0 : ms.length = 0
  · have HN := Lib.hid (fun fv u => has_none a c fv u)
    have hms : ms = [] := List.eq_nil_of_length_eq_zero h0
    have HT : Hid (∀ m ∈ ms, mAsk ps m) := Lib.hid (by rw [hms]; intro m hm; cases hm)
    have h0' : (ms.length : Int) = 0 := by omega
    rw [h0]
    clear h0' hms hm hml h0
    go_enter Tryz.func41, Tryz.ntmps41
    go_wp2_with (go_at_call 77; refine (HN.out _ _).mono ?_; rintro e w1 ⟨rfl, rfl⟩)
    go_ret
    exact ⟨⟨true, rfl, by simpa using HT.out⟩, hA⟩
  · obtain ⟨p, hp⟩ : ∃ p : Mt → Bool, ∀ x, p x = true ↔ ¬ mAsk ps x := ⟨fun x => @decide (¬ mAsk ps x) (Classical.propDecidable _), fun x => by simp⟩
    obtain ⟨mb, mo, rfl, hmb, hc⟩ := hm (by omega)
    have eg : ∀ args w, (callFunc 78 args).run Tryz.prog w = .ok (.enter 78 args) w := enters_of Tryz.func78 (by kernel_rfl) rfl
    have hcA : (w.alloc (.cells #[.slice b ps.length d] 40)).cell? ⟨w.heap.size, 0, none⟩ = some (.slice b ps.length d) := cell_heap (heap_new w _)
    have hcon := AnyQ.slices_ContainsFunc Tryz.lHasFunc 3 Tryz.isAgg117 Tryz.sizeOf117 encM (fun _ => rfl) p 78 #[.pointer (some ⟨w.heap.size, 0, none⟩)] eg mb mo ms.length c ms (w.alloc (.cells #[.slice b ps.length d] 40))
      (notOne_any w.heap.size b d ps p hp _ (htab.on hA htl) (h.below hA (Nat.le_refl _)) hn hv (by simp) hcA) (Nat.le_refl _) hml (by simp; omega) (MtsAt.cells fun i hi => by
        obtain ⟨h1, h2, h3⟩ := hc i hi
        exact ⟨by rw [hA.cell (p := ⟨mb, mo + i * 3, none⟩) hmb]; exact h1, by rw [hA.cell (p := ⟨mb, mo + i * 3 + 1, none⟩) hmb]; exact h2, by rw [hA.cell (p := ⟨mb, mo + i * 3 + 2, none⟩) hmb]; exact h3⟩)
    change Calls Tryz.prog 77 _ _ _ at hcon
    have HT : Hid ((!(ms.take ms.length).any p) = true ↔ ∀ m ∈ ms, mAsk ps m) := Lib.hid (by
      rw [List.take_length]
      simp only [Bool.not_eq_true', List.any_eq_false]
      constructor
      · intro k m hm
        exact Classical.not_not.1 fun e => k m hm ((hp m).2 e)
      · intro k m hm e
        exact (hp m).1 e (k m hm))
    generalize (ms.take ms.length).any p = r at *
    have HC := Lib.hid hcon
    clear hcon hc hp eg hcA h hv
    go_enter Tryz.func41, Tryz.ntmps41
    go_wp2_with (go_at_call 77; refine HC.out.mono ?_; rintro e w1 ⟨rfl, q1⟩)
    go_ret
    exact ⟨⟨!r, rfl, HT.out⟩, hA.trans (q1.mono hA.size)⟩

end Go.Proofs.YtmanjegdgjeeiaaGreatDoor
namespace Go.Proofs.YtmanjegdgjeeiaaGreatDoor
open Go.ChangeShapes Go.WideShapes Go.ChangeAt Go.RowKit Go.Deep

theorem mcellsPair : Tryz.prog.cellsOf 57 = 2 := by kernel_rfl
/-- The text that a cell holds. -/
def mstrOf : Value → ByteArray
  | .string s => s
  | _ => ⟨#[]⟩

theorem open_pairsM {H : Type} {enc : TypeId × Value → H} {W : World} {base : Nat} {sp : Nat → Bool} {held : Bool} {fuel : Nat} {a : Option Addr} {len cap : Nat} {x : DataW H × List MemPlace}
    (h : DataW.trod enc Tryz.prog W base sp held fuel 40 [.slice a len cap] = some x) :
    ∃ ps : List Pr, ps.length = len ∧ PairsAt W a ps ∧ len ≤ maxLen ∧ (∀ p ∈ ps, p.1.size ≤ maxLen ∧ p.2.size ≤ maxLen) ∧
      (x.1 = .nil ∧ ps = [] ∨ ∃ spare, x.1 = .slice (ps.map fun p => .agg [.lit (.string p.1.data.toList), .lit (.string p.2.data.toList)]) spare) := by
  rcases open_slice_pairs Tryz.underlying40 Tryz.underlying57 mcellsPair rfl rfl (by kernel_rfl) (by kernel_rfl) h with ⟨hcs, hx⟩ | ⟨q, len', cap', m, n, V0, V1, D0, D1, P0, P1, hcs, _, hl, hm, hmm, hx, hc⟩
  · simp only [List.cons.injEq, Value.slice.injEq, and_true] at hcs
    obtain ⟨rfl, rfl, rfl⟩ := hcs
    exact ⟨[], rfl, fun hi => absurd hi (by simp), Nat.zero_le _, (fun p hp => by cases hp), .inl ⟨by rw [hx], rfl⟩⟩
  · simp only [List.cons.injEq, Value.slice.injEq, and_true] at hcs
    obtain ⟨rfl, rfl, rfl⟩ := hcs
    have hlm : len ≤ m := by split at hmm <;> omega
    have hstr : ∀ i, i < m → V0 i = .string (mstrOf (V0 i)) ∧ V1 i = .string (mstrOf (V1 i)) ∧ (mstrOf (V0 i)).size ≤ maxLen ∧ (mstrOf (V1 i)).size ≤ maxLen ∧ D0 i = .lit (.string (mstrOf (V0 i)).data.toList) ∧ D1 i = .lit (.string (mstrOf (V1 i)).data.toList) := fun i hi => by
      obtain ⟨-, -, h0, h1⟩ := hc i hi
      obtain ⟨s0, e0, f0, g0⟩ := DataW.trod_string Tryz.underlying9 h0
      obtain ⟨s1, e1, f1, g1⟩ := DataW.trod_string Tryz.underlying9 h1
      simp only [List.cons.injEq, and_true] at e0 e1
      simp only [Prod.mk.injEq] at f0 f1
      rw [e0, e1]
      exact ⟨rfl, rfl, g0, g1, f0.1, f1.1⟩
    refine ⟨(List.range len).map fun i => (mstrOf (V0 i), mstrOf (V1 i)), by simp, fun hn => ?_, by omega, fun p hp => ?_, .inr ⟨_, by
      rw [hx]
      simp only [List.map_map]
      congr 1
      refine List.map_congr_left fun i hi => ?_
      have := hstr i (by have := List.mem_range.1 hi; omega)
      simp only [Function.comp, this.2.2.2.2.1, this.2.2.2.2.2]⟩⟩
    · simp only [List.length_map, List.length_range] at hn
      obtain ⟨hc0, -, -, -⟩ := hc 0 (by omega)
      obtain ⟨b, o, s⟩ := q
      obtain rfl : s = none := by simpa [Addr.add] using World.cell?_spot hc0
      refine ⟨b, o, rfl, fun i hi => ?_⟩
      simp only [List.length_map, List.length_range] at hi
      obtain ⟨c0, c1, -, -⟩ := hc i (by omega)
      obtain ⟨e0, e1, -⟩ := hstr i (by omega)
      rw [Go.WideShapes.add_plain, e0] at c0
      rw [Go.WideShapes.add_plain, e1] at c1
      simp only [List.getElem_map, List.getElem_range]
      exact ⟨c0, c1⟩
    · obtain ⟨i, hi, rfl⟩ := List.mem_map.1 hp
      have := hstr i (by have := List.mem_range.1 hi; omega)
      exact ⟨this.2.2.1, this.2.2.2.1⟩

theorem mbytes_pair : Tryz.prog.bytesOf 57 = 32 := by kernel_rfl
/-- .. and how many pairs it may have. -/
theorem mreach_pairs {H : Type} {ts : List TypeId} {ds : List (DataW H)} (hsz : (DataW.weightsEach Tryz.prog ts ds).all (· ≤ reachBytes) = true) {j : Nat} {d : DataW H} (ht : ts[j]? = some 40) (hd : ds[j]? = some d) {ps : List Pr}
    (h : d = .nil ∧ ps = [] ∨ ∃ spare, d = .slice (ps.map fun p => .agg [.lit (.string p.1.data.toList), .lit (.string p.2.data.toList)]) spare) : ps.length ≤ 4398046510976 := by
  rcases h with ⟨_, rfl⟩ | ⟨spare, rfl⟩
  · simp
  · have h1 := sized_slice hsz ht hd Tryz.underlying40
    rw [mbytes_pair, List.length_map] at h1
    have h2 : reachBytes = 140737488351232 := by decide
    omega


theorem cellsMt : Tryz.prog.cellsOf 117 = 3 := by kernel_rfl
theorem cellsStr1 : Tryz.prog.cellsOf 9 = 1 := by kernel_rfl
theorem cellsOp1 : Tryz.prog.cellsOf 115 = 1 := by kernel_rfl
/-- A matcher as data. -/
def dataM {H : Type} (m : Mt) : DataW H := .agg [.lit (.string m.1.data.toList), .lit (.int .u8 (m.2.1 : Int)), .lit (.string m.2.2.data.toList)]

set_option maxRecDepth 20000 in
theorem open_cells3 {H : Type} {enc : TypeId × Value → H} {W : World} {base : Nat} {sp : Nat → Bool} {held : Bool} {fuel : Nat} {cs : List Value} {x : DataW H × List MemPlace}
    (h : DataW.trod enc Tryz.prog W base sp held fuel 117 cs = some x) :
    ∃ m : Mt, cs = [.string m.1, .int .u8 (m.2.1 : Int), .string m.2.2] ∧ x = (dataM m, []) ∧ m.2.1 < 256 ∧ m.1.size ≤ maxLen ∧ m.2.2.size ≤ maxLen := by
  obtain ⟨y0, y1, y2, n, rfl, hl, h0, h1, h2⟩ := trod_struct3 Tryz.underlying117 h
  rw [cellsMt] at hl
  match cs, hl with
  | [v0, v1, v2], _ =>
    simp [cellsStr1, cellsOp1] at h0 h1 h2
    obtain ⟨s0, e0, f0, g0⟩ := DataW.trod_string Tryz.underlying9 h0
    obtain ⟨z, e1, f1, g1⟩ := DataW.trod_int Tryz.underlying115 h1
    obtain ⟨s2, e2, f2, g2⟩ := DataW.trod_string Tryz.underlying9 h2
    simp only [List.cons.injEq, and_true] at e0 e1 e2
    subst e0 e1 e2 f0 f1 f2
    have k1 : IntKind.u8.min = 0 := rfl
    have k2 : IntKind.u8.max = 255 := rfl
    simp only [Lit.wf, Bool.and_eq_true, decide_eq_true_eq] at g1
    refine ⟨(s0, z.toNat, s2), ?_, ?_, ?_, g0, g2⟩
    · show [Value.string s0, .int .u8 z, .string s2] = [Value.string s0, .int .u8 (z.toNat : Int), .string s2]
      rw [Int.toNat_of_nonneg (by omega)]
    · unfold dataM
      simp only [Prod.mk.injEq]
      rw [Int.toNat_of_nonneg (by omega)]
      exact ⟨rfl, rfl⟩
    · show z.toNat < 256
      omega
set_option maxRecDepth 20000 in
theorem open_matcher {H : Type} {enc : TypeId × Value → H} {W : World} {base base' : Nat} {sp : Nat → Bool} {held : Bool} {fuel : Nat} {r : Reach} {v : Value} {x : DataW H × List MemPlace} (hv : Value.okWide Tryz.prog W r base' 117 v)
    (h : DataW.trod enc Tryz.prog W base sp held fuel 117 v.cells.toList = some x) :
    ∃ m : Mt, v = .agg #[.string m.1, .int .u8 (m.2.1 : Int), .string m.2.2] ∧ x = (dataM m, []) ∧ m.2.1 < 256 ∧ m.1.size ≤ maxLen ∧ m.2.2.size ≤ maxLen := by
  obtain ⟨cs, rfl, -⟩ := okWide_struct Tryz.underlying117 hv
  obtain ⟨m, h1, h2⟩ := open_cells3 (cs := cs.toList) (by simpa [Value.cells] using h)
  refine ⟨m, ?_, h2⟩
  rw [← Array.toList_inj.1 (show cs.toList = #[Value.string m.1, .int .u8 (m.2.1 : Int), .string m.2.2].toList from h1)]

set_option maxRecDepth 20000 in
theorem open_matchers {H : Type} {enc : TypeId × Value → H} {W : World} {base : Nat} {sp : Nat → Bool} {held : Bool} {fuel : Nat} {a : Option Addr} {len cap : Nat} {x : DataW H × List MemPlace}
    (h : DataW.trod enc Tryz.prog W base sp held fuel 48 [.slice a len cap] = some x) :
    ∃ ms : List Mt, ms.length = len ∧ MtsAt W a ms ∧ len ≤ maxLen ∧ ((a = none → len = 0 ∧ cap = 0) ∧ ∀ m ∈ ms, m.1.size ≤ maxLen ∧ m.2.2.size ≤ maxLen) ∧
      (x.1 = .nil ∧ ms = [] ∨ ∃ spare, x.1 = .slice (ms.map dataM) spare) := by
  rcases open_slice Tryz.underlying48 h with ⟨hcs, hx⟩ | ⟨q, len', cap', m, n, D, Pl, hcs, hb, hl, hm, hmm, hx, hc⟩
  · simp only [List.cons.injEq, Value.slice.injEq, and_true] at hcs
    obtain ⟨rfl, rfl, rfl⟩ := hcs
    exact ⟨[], rfl, fun hi => absurd hi (by simp), Nat.zero_le _, ⟨fun _ => ⟨rfl, rfl⟩, fun p hp => by cases hp⟩, .inl ⟨by rw [hx], rfl⟩⟩
  · simp only [List.cons.injEq, Value.slice.injEq, and_true] at hcs
    obtain ⟨rfl, rfl, rfl⟩ := hcs
    rw [cellsMt] at hc
    have each : ∀ i, i < m → ∃ y : Mt, (W.cell? ((q.add (i * 3)).add 0) = some (.string y.1) ∧ W.cell? ((q.add (i * 3)).add 1) = some (.int .u8 (y.2.1 : Int)) ∧ W.cell? ((q.add (i * 3)).add 2) = some (.string y.2.2)) ∧ D i = dataM y ∧ y.1.size ≤ maxLen ∧ y.2.2.size ≤ maxLen := fun i hi => by
      obtain ⟨cs', h1, h2⟩ := hc i hi
      obtain ⟨-, -, hcell⟩ := World.cells?_some h1
      obtain ⟨y, rfl, hy, -, hz1, hz2⟩ := open_cells3 h2
      simp only [Prod.mk.injEq] at hy
      exact ⟨y, ⟨hcell 0 (by omega), hcell 1 (by omega), hcell 2 (by omega)⟩, hy.1, hz1, hz2⟩
    obtain ⟨f, hf⟩ := choose_lt each
    have hlm : len ≤ m := by split at hmm <;> omega
    refine ⟨(List.range len).map f, by simp, fun hn => ?_, by omega, ⟨(fun e => by cases e), fun y hy => ?_⟩, .inr ⟨_, by
      rw [hx]
      simp only [List.map_map]
      congr 1
      refine List.map_congr_left fun i hi => ?_
      exact (hf i (by have := List.mem_range.1 hi; omega)).2.1⟩⟩
    · simp only [List.length_map, List.length_range] at hn
      obtain ⟨⟨hc0, -, -⟩, -⟩ := hf 0 (by omega)
      obtain ⟨b, o, s⟩ := q
      obtain rfl : s = none := by simpa [Addr.add] using World.cell?_spot hc0
      refine ⟨b, o, rfl, ?_, fun i hi => ?_⟩
      · have := World.block_lt_of_cell? W _ hc0
        simpa [Addr.add] using this
      · simp only [List.length_map, List.length_range] at hi
        obtain ⟨⟨c0, c1, c2⟩, -⟩ := hf i (by omega)
        rw [Go.WideShapes.add_plain, Go.WideShapes.add_plain] at c0 c1 c2
        simp only [List.getElem_map, List.getElem_range]
        exact ⟨c0, c1, c2⟩
    · obtain ⟨i, hi, rfl⟩ := List.mem_map.1 hy
      exact (hf i (by have := List.mem_range.1 hi; omega)).2.2

theorem bytes_matcher : Tryz.prog.bytesOf 117 = 40 := by kernel_rfl
/-- .. and how many matchers it may have. -/
theorem reach_matchers {H : Type} {ts : List TypeId} {ds : List (DataW H)} (hsz : (DataW.weightsEach Tryz.prog ts ds).all (· ≤ reachBytes) = true) {j : Nat} {d : DataW H} (ht : ts[j]? = some 48) (hd : ds[j]? = some d) {ms : List Mt}
    (h : d = .nil ∧ ms = [] ∨ ∃ spare, d = .slice (ms.map dataM) spare) : ms.length ≤ 4398046510976 := by
  rcases h with ⟨_, rfl⟩ | ⟨spare, rfl⟩
  · simp
  · have h1 := sized_slice hsz ht hd Tryz.underlying48
    rw [bytes_matcher, List.length_map] at h1
    have h2 : reachBytes = 140737488351232 := by decide
    omega

end Go.Proofs.YtmanjegdgjeeiaaGreatDoor
