/-
  What ben.New and ben.List do: a reader of bytes, and the bytes of all parts in memory of the call's own. Numbers, texts and lists as bytes, without a program: what is laid is read again, and what is read was laid so. Calls of a reader, with an error or without, each in one contract.
-/
import Derived.Test.YtcngifkoopcmeaaGreatDoorK18
import Derived.Laws.AppendOwnNone
import Derived.Lib.ParseIntBCases
namespace Go.Proofs.YtcngifkoopcmeaaGreatDoor
open Go.RowKit

/-- A slice of bytes that is read: nil, or bytes at an address. -/
def SrcAt (w : World) (v : Value) (l : List UInt8) : Prop :=
  (v = .slice none 0 0 ∧ l = []) ∨ ∃ q c, v = .slice (some q) l.length c ∧ ∀ i (hi : i < l.length), w.cell? (q.add i) = some (.int .u8 (l[i].toNat : Int))

theorem Own.src {w : World} {B : Nat} {v : Value} {l : List UInt8} (h : Own w B v l) : SrcAt w v l := by
  rcases h.2 with ⟨rfl, h0⟩ | ⟨g, cap, cur, rfl, -, -, -, -, -, -⟩
  · exact .inl ⟨rfl, List.eq_nil_of_length_eq_zero h0⟩
  · exact .inr ⟨⟨g, 0, none⟩, cap, rfl, fun i hi => World.ownsRow.cells h (g := g) rfl i _ (by simp [Lib.byteCells, hi])⟩

theorem SrcAt.below {w w' : World} {v : Value} {l : List UInt8} {B : Nat} (h : SrcAt w v l) (hb : Below B w w') (hB : w.heap.size ≤ B) : SrcAt w' v l := by
  rcases h with h | ⟨q, c, rfl, hc⟩
  · exact .inl h
  · refine .inr ⟨q, c, rfl, fun i hi => ?_⟩
    have := hc i hi
    rw [hb.cell (Nat.lt_of_lt_of_le (World.block_lt_of_cell? w _ this) hB)]
    exact this

theorem SrcAt.grown {w w' : World} {v : Value} {l : List UInt8} {r : Option Nat} (h : SrcAt w v l) (hg : w.grownBy w' r) (hr : ∀ q n c, v = .slice (some q) n c → some q.block ≠ r) : SrcAt w' v l := by
  rcases h with h | ⟨q, c, rfl, hc⟩
  · exact .inl h
  · exact .inr ⟨q, c, rfl, fun i hi => hg.cell (hc i hi) (by rw [add_block]; exact hr q _ c rfl)⟩

set_option maxHeartbeats 400000 in
theorem New_any (v : Value) (l : List UInt8) (w : World) (h : SrcAt w v l) (hl : l.length ≤ 140737488355328) :
    Calls Tryz.prog 85 #[v] w fun e w' => ∃ rb a c, e = .returned (.pointer (some ⟨rb, 0, none⟩)) ∧ Rd w' rb a c l 0 ∧ w.heap.size ≤ rb ∧ (∀ p, a = some p → w.heap.size ≤ p.block ∧ p.block < rb) ∧ Below w.heap.size w w' := by
  rcases h with ⟨rfl, rfl⟩ | ⟨q, c, rfl, hc⟩
  · go_enter Tryz.func85, Tryz.ntmps85
    go_wp2_with (go_at_call 130; refine (Tryz.bytes_Clone_nil 0 0 _).mono ?_; rintro e w1 ⟨rfl, rfl⟩)
    go_ret
    refine ⟨_, none, 0, rfl, ⟨heap_alloc_new _ _, Nat.le_refl _, (by unfold maxLen; omega), fun h => absurd h (by simp), (fun _ h => by cases h), fun _ => rfl⟩, Nat.le_refl _, (fun _ h => by cases h), (Below.refl _ _).alloc (Nat.le_refl _) _⟩
  · have hcl := Tryz.bytes_Clone_at q l.length c (l.map fun b => (b.toNat : Int)) w (by simp) hl (fun i hi => by rw [hc i hi]; simp [List.getD, hi])
    have HC := Lib.hid hcl
    clear hcl
    go_enter Tryz.func85, Tryz.ntmps85
    go_wp2_with (go_at_call 130; refine HC.out.mono ?_; rintro e w1 ⟨v1, rfl, hown1, hne1, hnx1⟩; refine Hid.out ?_)
    refine Lib.hid ?_
    have hs1 := hnx1.size
    have ho : Own w1 w.heap.size v1 l := Own.of hown1 (by simp [Lib.byteCells])
    rcases ho.2 with ⟨rfl, -⟩ | ⟨g, cap, cur, rfl, hg0, hg1, hcap, hmax, -, -⟩
    · exact absurd rfl hne1
    · have hgl : g < w1.heap.size := (Array.getElem?_eq_some_iff.1 hg1).1
      have hcells : ∀ i (hi : i < l.length), w1.cell? ⟨g, 0 + i, none⟩ = some (.int .u8 (l.getD i 0).toNat) := fun i hi => by
        have := World.ownsRow.cells ho (g := g) rfl i (.int .u8 (l[i].toNat : Int)) (by simp [Lib.byteCells, hi])
        rw [Go.WideShapes.add_plain] at this
        rw [this]
        simp [List.getD, hi]
      clear hg1
      go_wp2
      go_ret
      refine ⟨_, some ⟨g, 0, none⟩, cap, rfl, ⟨heap_alloc_new _ _, hcap, hmax, fun _ => ⟨g, 0, rfl, fun i hi => ?_⟩, ?_, fun h => absurd rfl h⟩, hs1, ?_, hnx1.alloc hs1 _⟩
      · rw [((Below.refl w1.heap.size w1).alloc (Nat.le_refl _) _).cell (p := ⟨g, 0 + i, none⟩) hgl]
        exact hcells i hi
      · rintro p hp
        obtain rfl := Option.some.inj hp
        exact hgl
      · rintro p hp
        obtain rfl := Option.some.inj hp
        exact ⟨hg0, hgl⟩

/-- The parts of a list, in memory. -/
def PartsAt (w : World) (q : Option Addr) (ls : List (List UInt8)) : Prop :=
  0 < ls.length → ∃ b o, q = some ⟨b, o, none⟩ ∧ ∀ i (hi : i < ls.length), ∃ v, w.cell? ⟨b, o + i, none⟩ = some v ∧ SrcAt w v ls[i]

/-- The bytes that List lays. -/
def putList (ls : List (List UInt8)) : List UInt8 := 108 :: ls.flatten ++ [101]

set_option maxHeartbeats 1000000 in
set_option maxRecDepth 100000 in
theorem List_any (q : Option Addr) (c : Nat) (ls : List (List UInt8)) (w : World) (h : PartsAt w q ls) (hn : ls.length ≤ 140737488355328) (hl : ls.flatten.length ≤ 140737488355000) :
    Calls Tryz.prog 63 #[.slice q ls.length c] w fun e w' => ∃ v, e = .returned v ∧ Own w' w.heap.size v (putList ls) ∧ Below w.heap.size w w' := by
  obtain ⟨i0, hi, hz0, hz1, hz2⟩ := info_parts infoByte
  go_enter Tryz.func63, Tryz.ntmps63
  go_wp2
  go_loopw [3, 9] (fun v i wr => ∃ k : Nat, k ≤ ls.length ∧ i = .int .i64 k ∧ Own wr w.heap.size v (108 :: (ls.take k).flatten) ∧ Below w.heap.size w wr) (fun _ i _ => ls.length - (intOf i).toNat)
  case atStart => exact ⟨0, Nat.zero_le _, rfl, own_one w w.heap.size (Nat.le_refl _) 108, (Below.refl _ _).alloc (Nat.le_refl _) _⟩
  case round =>
    obtain ⟨k, hk, rfl, hown, hnx⟩ := hrel
    by_cases hlt : k < ls.length
    · obtain ⟨b, o, rfl, hc⟩ := h (by omega)
      obtain ⟨v1, hcell, hsrc⟩ := hc k hlt
      have hcell1 : wr.cell? ⟨b, o + k, none⟩ = some v1 := by rw [hnx.cell (p := ⟨b, o + k, none⟩) (World.block_lt_of_cell? w _ hcell)]; exact hcell
      have hsrc1 := hsrc.below hnx (Nat.le_refl _)
      have hfl : (108 :: (ls.take (k + 1)).flatten) = (108 :: (ls.take k).flatten) ++ ls[k] := by
        rw [List.take_succ_eq_append_getElem hlt, List.flatten_append]; simp
      have hsum : ((ls.take k).flatten ++ ls[k]).length ≤ ls.flatten.length := by
        have e : ls.flatten = (ls.take (k + 1)).flatten ++ (ls.drop (k + 1)).flatten := by rw [← List.flatten_append, List.take_append_drop]
        rw [e, List.take_succ_eq_append_getElem hlt, List.flatten_append]; simp
      have HF := Lib.hid hfl
      rw [List.length_append] at hsum
      have hs1 := hnx.size
      clear hfl hsrc hcell hc
      generalize hg : ls[k] = g at *
      have HG := Lib.hid hg
      clear hg
      generalize ht : (ls.take k).flatten = tk at *
      have HT := Lib.hid ht
      clear ht
      rcases hsrc1 with ⟨rfl, rfl⟩ | ⟨q1, c1, rfl, hq⟩
      · go_wp2_with (at_builtin; refine wpList_append_own_none rfl _ _ 111 rfl w.heap.size 5 i0 1 Tryz.underlying111 hi _ _ _ rfl hown rfl ?_)
        go_roundw
        case rel => exact ⟨k + 1, by omega, by go_num, by rw [HF.out]; simpa using hown, hnx⟩
        case measure => simp [intOf]; omega
      · have hown' : wr.ownsRow w.heap.size 5 1 _ (108 :: tk).length (Lib.byteCells (108 :: tk)) := hown
        go_wp2_with (at_builtin; refine wpList_append_own _ rfl _ _ 111 rfl w.heap.size 5 i0 (.int .u8 0) 1 1 Tryz.underlying111 hi hz0 hz1 hz2 rfl (by decide) _ _ _ rfl hown' q1 g.length c1 (Lib.byteCells g) rfl (by simp [Lib.byteCells]) (by
            intro j u' hj
            simp only [Lib.byteCells, List.getElem?_map, Option.map_eq_some_iff] at hj
            obtain ⟨y, hy, rfl⟩ := hj
            obtain ⟨hj1, rfl⟩ := List.getElem?_eq_some_iff.1 hy
            exact hq j hj1) (by intro u' hu'; simp only [Lib.byteCells, List.mem_map] at hu'; obtain ⟨y, _, rfl⟩ := hu'; rfl) (by simp only [List.length_cons]; unfold maxLen; omega) (by simp only [List.length_cons]; omega) (by omega) ?_; refine Hid.out ?_)
        refine Lib.hid ?_
        intro v2 w2 hown2 hgrow _
        have hnx2 : Below w.heap.size w w2 := hnx.grown hgrow hs1 (fun j hj => (World.ownsRow.lt hown j hj).1)
        go_wp2
        go_roundw
        case rel => exact ⟨k + 1, by omega, by go_num, Own.of hown2 (by rw [HF.out]; simp [Lib.byteCells]), hnx2⟩
        case measure => simp [intOf]; omega
    · obtain rfl : k = ls.length := by omega
      rw [List.take_length] at hown
      have hs1 := hnx.size
      generalize ht : ls.flatten = tk at *
      have HT := Lib.hid ht
      clear ht
      have hown' : wr.ownsRow w.heap.size 5 1 _ (108 :: tk).length (Lib.byteCells (108 :: tk)) := hown
      go_wp2_with (at_builtin; refine wpList_append_own _ rfl _ _ 111 rfl w.heap.size 5 i0 (.int .u8 0) 1 1 Tryz.underlying111 hi hz0 hz1 hz2 rfl (by decide) _ _ _ rfl (hown'.alloc _) ⟨wr.heap.size, 0, none⟩ 1 1 [Value.int .u8 101] rfl rfl (by intro j u' hj; match j, hj with | 0, hj => simp at hj; subst hj; simp [Addr.add]) (by intro u' hu'; simp at hu'; subst hu'; rfl) (by simp only [List.length_cons]; unfold maxLen; omega) (by simp only [List.length_cons]; omega) (by simp; omega) ?_; refine Hid.out ?_)
      refine Lib.hid ?_
      intro v2 w2 hown2 hgrow _
      have hnx2 : Below w.heap.size w w2 := (hnx.alloc hs1 _).grown hgrow (by simp; omega) (fun j hj => (World.ownsRow.lt hown j hj).1)
      go_wp2
      go_ret
      exact ⟨v2, rfl, Own.of hown2 (by rw [putList, HT.out]; simp [Lib.byteCells]), hnx2⟩

theorem Own.form {w : World} {B : Nat} {v : Value} {l : List UInt8} (h : Own w B v l) : ∃ a k c, v = .slice a k c := by
  rcases h.2 with ⟨rfl, -⟩ | ⟨g, cap, cur, rfl, -, -, -, -, -, -⟩
  · exact ⟨_, _, _, rfl⟩
  · exact ⟨_, _, _, rfl⟩

theorem Int_valT (n : Int) (h0 : -9223372036854775808 ≤ n) (h1 : n ≤ 9223372036854775807) (B : Nat) (w : World) (hB : B ≤ w.heap.size) (hv : Lib.TabBelow Tryz.prog B w "internal/strconv.uint64pow10" .u64 Lib.pow10Tab) :
    Calls Tryz.prog 61 #[.int .i64 n] w fun e w' => ∃ a k c, e = .returned (.slice a k c) ∧ Own w' w.heap.size (.slice a k c) (putInt n) ∧ Below w.heap.size w w' :=
  (Int_tab n h0 h1 B w hB hv).mono fun e w' ⟨v, he, ho, hb⟩ => by obtain ⟨a, k, c, rfl⟩ := ho.form; exact ⟨a, k, c, he, ho, hb⟩
theorem Int_val (n : Int) (h0 : -9223372036854775808 ≤ n) (h1 : n ≤ 9223372036854775807) (B : Nat) (w : World) (hB : B ≤ w.heap.size) (hv : VarsOk B w) :
    Calls Tryz.prog 61 #[.int .i64 n] w fun e w' => ∃ a k c, e = .returned (.slice a k c) ∧ Own w' w.heap.size (.slice a k c) (putInt n) ∧ Below w.heap.size w w' :=
  (Int_any n h0 h1 B w hB hv).mono fun e w' ⟨v, he, ho, hb⟩ => by obtain ⟨a, k, c, rfl⟩ := ho.form; exact ⟨a, k, c, he, ho, hb⟩
theorem Text_valT (s : ByteArray) (hs : s.size ≤ 140737488351232) (B : Nat) (w : World) (hB : B ≤ w.heap.size) (hv : Lib.TabBelow Tryz.prog B w "internal/strconv.uint64pow10" .u64 Lib.pow10Tab) :
    Calls Tryz.prog 62 #[.string s] w fun e w' => ∃ a k c, e = .returned (.slice a k c) ∧ Own w' w.heap.size (.slice a k c) (putText s.data.toList) ∧ Below w.heap.size w w' :=
  (Text_tab s hs B w hB hv).mono fun e w' ⟨v, he, ho, hb⟩ => by obtain ⟨a, k, c, rfl⟩ := ho.form; exact ⟨a, k, c, he, ho, hb⟩
theorem Text_val (s : ByteArray) (hs : s.size ≤ 140737488351232) (B : Nat) (w : World) (hB : B ≤ w.heap.size) (hv : VarsOk B w) :
    Calls Tryz.prog 62 #[.string s] w fun e w' => ∃ a k c, e = .returned (.slice a k c) ∧ Own w' w.heap.size (.slice a k c) (putText s.data.toList) ∧ Below w.heap.size w w' :=
  (Text_any s hs B w hB hv).mono fun e w' ⟨v, he, ho, hb⟩ => by obtain ⟨a, k, c, rfl⟩ := ho.form; exact ⟨a, k, c, he, ho, hb⟩
theorem List_val (q : Option Addr) (c : Nat) (ls : List (List UInt8)) (w : World) (h : PartsAt w q ls) (hn : ls.length ≤ 140737488355328) (hl : ls.flatten.length ≤ 140737488355000) (n : Nat) (hnl : n = ls.length) :
    Calls Tryz.prog 63 #[.slice q n c] w fun e w' => ∃ a k c, e = .returned (.slice a k c) ∧ Own w' w.heap.size (.slice a k c) (putList ls) ∧ Below w.heap.size w w' := by
  subst hnl
  exact (List_any q c ls w h hn hl).mono fun e w' ⟨v, he, ho, hb⟩ => by obtain ⟨a, k, c, rfl⟩ := ho.form; exact ⟨a, k, c, he, ho, hb⟩

end Go.Proofs.YtcngifkoopcmeaaGreatDoor
namespace Go.Proofs.YtcngifkoopcmeaaGreatDoor
open Go.RowKit

theorem parseUintM_append (M : Nat) : ∀ (l r : List UInt8) (acc a : Nat), Lib.parseUintM M acc l = .ok a → Lib.parseUintM M acc (l ++ r) = Lib.parseUintM M a r
  | [], r, acc, a, h => by
    simp only [Lib.parseUintM] at h
    injection h with h
    rw [h]; rfl
  | c :: l, r, acc, a, h => by
    simp only [Lib.parseUintM, List.cons_append] at h ⊢
    split at h
    · rename_i hc
      rw [if_pos hc]
      split at h
      · cases h
      · rename_i h1
        rw [if_neg h1]
        split at h
        · cases h
        · rename_i h2
          rw [if_neg h2]
          exact parseUintM_append M l r _ a h
    · cases h

theorem digit_toNat {u : Nat} (h : u < 10) : (UInt8.ofNat (48 + u)).toNat = 48 + u := by
  rw [UInt8.toNat_ofNat']; omega

theorem parse_dec (M : Nat) (hM : M ≤ 18446744073709551615) : ∀ (u : Nat), u ≤ M → Lib.parseUintM M 0 (Lib.decDigits u) = .ok u := by
  intro u
  induction u using Nat.strongRecOn with
  | _ u ih =>
    intro hu
    rw [Lib.decDigits]
    by_cases h : u < 10
    · rw [dif_pos h]
      simp only [Lib.parseUintM, digit_toNat h]
      rw [if_pos (by omega), if_neg (by omega), if_neg (by omega)]
      congr 1; omega
    · rw [dif_neg h, parseUintM_append M _ _ 0 (u / 10) (ih (u / 10) (by omega) (by omega))]
      simp only [Lib.parseUintM, digit_toNat (show u % 10 < 10 by omega)]
      rw [if_pos (by omega), if_neg (by omega), if_neg (by omega)]
      congr 1; omega

theorem dec_digits : ∀ (u : Nat), ∀ c ∈ Lib.decDigits u, 48 ≤ c.toNat ∧ c.toNat ≤ 57 := by
  intro u
  induction u using Nat.strongRecOn with
  | _ u ih =>
    intro c hc
    rw [Lib.decDigits] at hc
    by_cases h : u < 10
    · rw [dif_pos h] at hc
      simp only [List.mem_singleton] at hc
      subst hc
      rw [digit_toNat h]; omega
    · rw [dif_neg h, List.mem_append] at hc
      rcases hc with hc | hc
      · exact ih (u / 10) (by omega) c hc
      · simp only [List.mem_singleton] at hc
        subst hc
        rw [digit_toNat (show u % 10 < 10 by omega)]; omega

theorem dec_ne (u : Nat) : Lib.decDigits u ≠ [] := by
  intro h
  have h1 := Lib.decDigits_length u
  have h2 := Lib.nDigits_pos u
  rw [h] at h1
  simp at h1
  omega

theorem nDigits_le19 (u : Nat) (h : u < 10000000000000000000) : Lib.nDigits u ≤ 19 := by
  rcases Nat.lt_or_ge 19 (Lib.nDigits u) with h1 | h1
  · exfalso
    have : ∀ (k v : Nat), k ≤ Lib.nDigits v → 1 ≤ k → 10 ^ (k - 1) ≤ v ∨ k = 1 := by
      intro k
      induction k with
      | zero => intro v _ h; omega
      | succ k ih =>
        intro v hv _
        rcases Nat.eq_zero_or_pos k with rfl | hk
        · exact .inr rfl
        · by_cases hv10 : v < 10
          · rw [Lib.nDigits_small hv10] at hv; omega
          · rw [Lib.nDigits_big hv10] at hv
            left
            rcases ih (v / 10) (by omega) hk with h | h
            · obtain ⟨j, rfl⟩ : ∃ j, k = j + 1 := ⟨k - 1, by omega⟩
              simp only [Nat.add_sub_cancel] at h ⊢
              rw [Nat.pow_succ]; omega
            · subst h; simp; omega
    rcases this 20 u (by omega) (by omega) with h2 | h2
    · have e : 10 ^ (20 - 1) = 10000000000000000000 := by decide
      omega
    · omega
  · exact h1

theorem itoa_len20 (n : Int) (h0 : -9223372036854775808 ≤ n) (h1 : n ≤ 9223372036854775807) : (Lib.itoa n).length ≤ 20 := by
  unfold Lib.itoa
  split
  · rw [List.length_cons, Lib.decDigits_length]
    have := nDigits_le19 n.natAbs (by omega)
    omega
  · rw [Lib.decDigits_length]
    have := nDigits_le19 n.toNat (by omega)
    omega

theorem itoa_bytes (n : Int) : ∀ c ∈ Lib.itoa n, c.toNat = 45 ∨ (48 ≤ c.toNat ∧ c.toNat ≤ 57) := by
  intro c hc
  unfold Lib.itoa at hc
  split at hc
  · rcases List.mem_cons.1 hc with rfl | hc
    · exact .inl rfl
    · exact .inr (dec_digits _ c hc)
  · exact .inr (dec_digits _ c hc)

/-- The digits of a number are those of that number. -/
theorem numOf_itoa (n : Int) (h0 : -9223372036854775808 ≤ n) (h1 : n ≤ 9223372036854775807) : numOf (Lib.itoa n) = some n := by
  have e64 : 2 ^ 64 - 1 = 18446744073709551615 := by decide
  have e63 : 2 ^ (64 - 1) = 9223372036854775808 := by decide
  have hp : Lib.parseIntB 64 (Lib.itoa n) = .ok n := by
    unfold Lib.itoa
    by_cases hn : n < 0
    · rw [if_pos hn, Lib.parseIntB_minus]
      unfold Lib.parseUintB
      rw [if_neg (dec_ne _), parse_dec _ (by omega) n.natAbs (by omega)]
      simp only [Lib.signedC]
      rw [if_neg (by omega)]
      congr 1; omega
    · rw [if_neg hn]
      have hd := dec_digits n.toNat
      have hpu : Lib.parseUintB 64 (Lib.decDigits n.toNat) = .ok n.toNat := by
        unfold Lib.parseUintB
        rw [if_neg (dec_ne _), parse_dec _ (by omega) n.toNat (by omega)]
      cases hq : Lib.decDigits n.toNat with
      | nil => exact absurd hq (dec_ne _)
      | cons c r =>
        rw [hq] at hd hpu
        have hc := hd c (List.mem_cons_self ..)
        rw [Lib.parseIntB_plain 64 c r (by omega) (by omega), hpu]
        simp only [Lib.signlessC]
        rw [if_neg (by omega)]
        congr 1; omega
  unfold numOf
  rw [hp]
  simp

/-- The first of a byte behind bytes that are none of it. -/
theorem index_behind : ∀ (d r : List UInt8) (c : UInt8) (m : Nat), (∀ x ∈ d, x ≠ c) → d.length ≤ m → Lib.indexByte ((d ++ c :: r).take (m + 1)) c = d.length
  | [], r, c, m, _, _ => by simp [Lib.indexByte]
  | x :: d, r, c, m, hd, hm => by
    simp only [List.length_cons] at hm
    obtain ⟨k, rfl⟩ : ∃ k, m = k + 1 := ⟨m - 1, by omega⟩
    have ih := index_behind d r c k (fun y hy => hd y (List.mem_cons_of_mem _ hy)) (by omega)
    rw [List.cons_append, List.take_succ_cons]
    unfold Lib.indexByte
    have hx : (x == c) = false := by simpa using hd x (List.mem_cons_self ..)
    rw [hx, ih]
    have : ((d.length : Int) == -1) = false := by rw [beq_eq_false_iff_ne]; omega
    simp [this]

theorem itoa_free (n : Int) (c : UInt8) (hc : c.toNat = 101 ∨ c.toNat = 58) : ∀ x ∈ Lib.itoa n, x ≠ c := by
  intro x hx e
  subst e
  have := itoa_bytes n x hx
  omega

/-- What is laid for a number is read as it was. -/
theorem read_putInt (n : Int) (h0 : -9223372036854775808 ≤ n) (h1 : n ≤ 9223372036854775807) (r : List UInt8) : rdInt (putInt n ++ r) = (r, 0, n) := by
  have hi : Lib.indexByte ((Lib.itoa n ++ 101 :: r).take 21) 101 = (Lib.itoa n).length := index_behind _ r 101 20 (itoa_free n 101 (.inl rfl)) (itoa_len20 n h0 h1)
  have e : putInt n ++ r = 105 :: (Lib.itoa n ++ 101 :: r) := by simp [putInt]
  rw [e]
  simp only [rdInt]
  rw [if_neg (by simp), hi, if_neg (by omega), Int.toNat_natCast, List.take_left, numOf_itoa n h0 h1]
  simp

/-- What is laid for a text is read as it was. -/
theorem read_putText (s : List UInt8) (hs : s.length ≤ 1000000000) (most : Int) (hm : (s.length : Int) ≤ most) (r : List UInt8) : rdText most (putText s ++ r) = (r, 0, s) := by
  have hlen : (Lib.itoa s.length).length ≤ 10 := by
    rw [show Lib.itoa (s.length : Int) = Lib.decDigits s.length by unfold Lib.itoa; rw [if_neg (by omega), Int.toNat_natCast], Lib.decDigits_length]
    rcases Nat.lt_or_ge (Lib.nDigits s.length) 11 with h | h
    · omega
    · exfalso
      have : ∀ (k v : Nat), k ≤ Lib.nDigits v → 1 ≤ k → 10 ^ (k - 1) ≤ v ∨ k = 1 := by
        intro k
        induction k with
        | zero => intro v _ h; omega
        | succ k ih =>
          intro v hv _
          rcases Nat.eq_zero_or_pos k with rfl | hk
          · exact .inr rfl
          · by_cases hv10 : v < 10
            · rw [Lib.nDigits_small hv10] at hv; omega
            · rw [Lib.nDigits_big hv10] at hv
              left
              rcases ih (v / 10) (by omega) hk with h | h
              · obtain ⟨j, rfl⟩ : ∃ j, k = j + 1 := ⟨k - 1, by omega⟩
                simp only [Nat.add_sub_cancel] at h ⊢
                rw [Nat.pow_succ]; omega
              · subst h; simp; omega
      rcases this 11 s.length h (by omega) with h2 | h2
      · have e : 10 ^ (11 - 1) = 10000000000 := by decide
        omega
      · omega
  have e : putText s ++ r = Lib.itoa s.length ++ 58 :: (s ++ r) := by simp [putText]
  have hi : Lib.indexByte ((Lib.itoa s.length ++ 58 :: (s ++ r)).take 11) 58 = (Lib.itoa s.length).length := index_behind _ (s ++ r) 58 10 (itoa_free s.length 58 (.inr rfl)) hlen
  have hn := numOf_itoa s.length (by omega) (by omega)
  rw [e]
  generalize hd : Lib.itoa (s.length : Int) = d at *
  cases d with
  | nil => exact absurd (by unfold Lib.itoa at hd; rw [if_neg (by omega)] at hd; exact hd) (dec_ne _)
  | cons c d =>
    have hc : 48 ≤ c.toNat ∧ c.toNat ≤ 57 := by
      have hd2 : Lib.decDigits s.length = c :: d := by rw [← hd]; unfold Lib.itoa; rw [if_neg (by omega), Int.toNat_natCast]
      exact dec_digits s.length c (by rw [hd2]; exact List.mem_cons_self ..)
    rw [List.cons_append] at hi ⊢
    simp only [rdText]
    rw [if_neg (by omega), hi, if_neg (by omega), Int.toNat_natCast, ← List.cons_append, List.take_left, hn]
    simp only
    rw [if_neg (by omega), if_neg (by omega)]
    have ed : ((c :: d) ++ 58 :: (s ++ r)).drop ((c :: d).length + 1) = s ++ r := by
      rw [← List.drop_drop, List.drop_left]; rfl
    rw [ed, if_neg (by simp; omega), Int.toNat_natCast, List.drop_left, List.take_left]

/-- What is read as a number was laid so. -/
theorem rdInt_laid {l r : List UInt8} {n : Int} (h : rdInt l = (r, 0, n)) : l = putInt n ++ r := by
  cases l with
  | nil => simp [rdInt] at h
  | cons x l =>
    simp only [rdInt] at h
    split at h
    · simp at h
    · rename_i hx
      simp only [ne_eq, Decidable.not_not] at hx
      subst hx
      split at h
      · split at h <;> simp at h
      · rename_i hi
        obtain ⟨k, hk⟩ : ∃ k : Nat, Lib.indexByte (l.take 21) 101 = k := ⟨(Lib.indexByte (l.take 21) 101).toNat, by have := Lib.indexByte_ge (l.take 21) 101; omega⟩
        rw [hk, Int.toNat_natCast] at h
        obtain ⟨hkl, _, hk1⟩ := hit_facts (m := 20) hk
        cases hn : numOf (l.take k) with
        | none => rw [hn] at h; simp at h
        | some n' =>
          rw [hn] at h
          simp only [Prod.mk.injEq, true_and] at h
          obtain ⟨rfl, rfl⟩ := h
          obtain ⟨_, hd⟩ := numOf_some hn
          have e : l = l.take k ++ 101 :: l.drop (k + 1) := by
            have e2 : l.drop k = 101 :: l.drop (k + 1) := by
              rw [List.drop_eq_getElem_cons hkl]
              congr 1
              rw [List.getElem?_eq_getElem hkl] at hk1
              exact Option.some.inj hk1
            rw [← e2, List.take_append_drop]
          unfold putInt
          rw [hd]
          simp only [List.cons_append, List.append_assoc, List.nil_append]
          rw [← e]

theorem rdInt_err {l r : List UInt8} {e n : Int} (h : rdInt l = (r, e, n)) (he : e ≠ 0) : n = 0 := by
  cases l with
  | nil => simp [rdInt] at h; omega
  | cons x l =>
    simp only [rdInt] at h
    split at h
    · simp at h; omega
    · split at h
      · split at h <;> simp at h <;> omega
      · split at h
        · simp at h; omega
        · simp at h; omega

/-- What is read as a text was laid so. -/
theorem rdText_laid {l r s : List UInt8} {most : Int} (h : rdText most l = (r, 0, s)) : l = putText s ++ r := by
  cases l with
  | nil => simp [rdText] at h
  | cons x l =>
    simp only [rdText] at h
    split at h
    · simp at h
    · rename_i hx
      split at h
      · split at h <;> simp at h
      · rename_i hi
        obtain ⟨k, hk⟩ : ∃ k : Nat, Lib.indexByte ((x :: l).take 11) 58 = k := ⟨(Lib.indexByte ((x :: l).take 11) 58).toNat, by have := Lib.indexByte_ge ((x :: l).take 11) 58; omega⟩
        rw [hk, Int.toNat_natCast] at h
        obtain ⟨hkl, _, hk1⟩ := hit_facts (m := 10) hk
        cases hn : numOf ((x :: l).take k) with
        | none => rw [hn] at h; simp at h
        | some n =>
          rw [hn] at h
          simp only at h
          split at h
          · simp at h
          · split at h
            · simp at h
            · split at h
              · simp at h
              · rename_i h1 h2 h3
                simp only [Prod.mk.injEq, true_and] at h
                obtain ⟨rfl, rfl⟩ := h
                have h0 := numOf_digit (by omega) hn
                obtain ⟨_, hd⟩ := numOf_some hn
                have e : (x :: l) = (x :: l).take k ++ 58 :: (x :: l).drop (k + 1) := by
                  have e2 : (x :: l).drop k = 58 :: (x :: l).drop (k + 1) := by
                    rw [List.drop_eq_getElem_cons hkl]
                    congr 1
                    rw [List.getElem?_eq_getElem hkl] at hk1
                    exact Option.some.inj hk1
                  rw [← e2, List.take_append_drop]
                generalize hq : (x :: l).drop (k + 1) = q at *
                have hl : ((q.take n.toNat).length : Int) = n := by rw [List.length_take]; omega
                unfold putText
                rw [hl, hd]
                simp only [List.append_assoc, List.cons_append, List.take_append_drop]
                exact e

theorem rdText_err {l r s : List UInt8} {e most : Int} (h : rdText most l = (r, e, s)) (he : e ≠ 0) : s = [] := by
  cases l with
  | nil => simp [rdText] at h; exact h.2.2
  | cons x l =>
    simp only [rdText] at h
    split at h
    · simp at h; exact h.2.2
    · split at h
      · split at h <;> (simp at h; exact h.2.2)
      · split at h
        · simp at h; exact h.2.2
        · split at h
          · simp at h; exact h.2.2
          · split at h
            · simp at h; exact h.2.2
            · split at h
              · simp at h; exact h.2.2
              · simp only [Prod.mk.injEq] at h; exact absurd h.2.1.symm he

/-- No bytes are a number and a text. -/
theorem not_both {l r r' s : List UInt8} {n most : Int} (h : rdInt l = (r, 0, n)) (h' : rdText most l = (r', 0, s)) : False := by
  have e1 := rdInt_laid h
  cases l with
  | nil => simp [rdInt] at h
  | cons x l =>
    simp only [putInt, List.cons_append, List.cons.injEq] at e1
    obtain ⟨rfl, _⟩ := e1
    simp [rdText] at h'

end Go.Proofs.YtcngifkoopcmeaaGreatDoor
namespace Go.Proofs.YtcngifkoopcmeaaGreatDoor
open Go.RowKit

def intE (e : Int) (l : List UInt8) : List UInt8 × Int × Int := if e = 0 then rdInt l else ([], e, 0)
def textE (most e : Int) (l : List UInt8) : List UInt8 × Int × List UInt8 := if e = 0 then rdText most l else ([], e, [])
def byteE (ch : UInt8) (e : Int) (l : List UInt8) : List UInt8 × Int := if e = 0 then rdByte ch l else ([], e)
theorem ne_bool {e : Int} (h : ¬ e = 0) : (e != 0) = true := by simpa using h

theorem rInt_full (rb : Nat) (a : Option Addr) (c : Nat) (l : List UInt8) (e : Int) (B : Nat) (w : World) (h : Rd w rb a c l e) (hB : B ≤ rb) (hv : VarsOk B w) {l1 : List UInt8} {e1 n : Int} (hT : intE e l = (l1, e1, n)) :
    Calls Tryz.prog 89 #[.pointer (some ⟨rb, 0, none⟩)] w fun r w' => r = .returned (.int .i64 n) ∧ (∃ a c, Rd w' rb a c l1 e1) ∧ w.grownBy w' (some rb) := by
  by_cases h0 : e = 0
  · subst h0
    have := rInt_any rb a c l B w h hB hv
    rw [show rdInt l = (l1, e1, n) from hT] at this
    exact this
  · obtain rfl := h.err h0
    simp only [intE, if_neg h0, Prod.mk.injEq] at hT
    obtain ⟨rfl, rfl, rfl⟩ := hT
    exact (rInt_err rb a c [] e w h (ne_bool h0)).mono fun r w' ⟨h1, h2⟩ => ⟨h1, ⟨a, c, by rw [h2]; exact h⟩, by rw [h2]; exact grownBy_refl w _⟩
theorem rText_full (rb : Nat) (a : Option Addr) (c : Nat) (l : List UInt8) (e most : Int) (B : Nat) (w : World) (h : Rd w rb a c l e) (hB : B ≤ rb) (hv : VarsOk B w) {l1 s : List UInt8} {e1 : Int} (hT : textE most e l = (l1, e1, s)) :
    Calls Tryz.prog 88 #[.pointer (some ⟨rb, 0, none⟩), .int .i64 most] w fun r w' => r = .returned (.string ⟨s.toArray⟩) ∧ (∃ a c, Rd w' rb a c l1 e1) ∧ w.grownBy w' (some rb) := by
  by_cases h0 : e = 0
  · subst h0
    exact rText_eq rb a c l most B w h hB hv hT
  · obtain rfl := h.err h0
    simp only [textE, if_neg h0, Prod.mk.injEq] at hT
    obtain ⟨rfl, rfl, rfl⟩ := hT
    exact (rText_err rb a c [] e most w h (ne_bool h0)).mono fun r w' ⟨h1, h2⟩ => ⟨h1, ⟨a, c, by rw [h2]; exact h⟩, by rw [h2]; exact grownBy_refl w _⟩
theorem Open_full (rb : Nat) (a : Option Addr) (c : Nat) (l : List UInt8) (e : Int) (w : World) (h : Rd w rb a c l e) {l1 : List UInt8} {e1 : Int} (hT : byteE 108 e l = (l1, e1)) :
    Calls Tryz.prog 86 #[.pointer (some ⟨rb, 0, none⟩)] w fun r w' => r = .returned (.tuple #[]) ∧ (∃ a c, Rd w' rb a c l1 e1) ∧ w.grownBy w' (some rb) := by
  by_cases h0 : e = 0
  · subst h0
    have := Open_any rb a c l w h
    rw [show rdByte 108 l = (l1, e1) from hT] at this
    exact this
  · obtain rfl := h.err h0
    simp only [byteE, if_neg h0, Prod.mk.injEq] at hT
    obtain ⟨rfl, rfl⟩ := hT
    exact (Open_err rb a c [] e w h (ne_bool h0)).mono fun r w' ⟨h1, h2⟩ => ⟨h1, ⟨a, c, by rw [h2]; exact h⟩, by rw [h2]; exact grownBy_refl w _⟩
theorem Close_full (rb : Nat) (a : Option Addr) (c : Nat) (l : List UInt8) (e : Int) (w : World) (h : Rd w rb a c l e) {l1 : List UInt8} {e1 : Int} (hT : byteE 101 e l = (l1, e1)) :
    Calls Tryz.prog 90 #[.pointer (some ⟨rb, 0, none⟩)] w fun r w' => r = .returned (.tuple #[]) ∧ (∃ a c, Rd w' rb a c l1 e1) ∧ w.grownBy w' (some rb) := by
  by_cases h0 : e = 0
  · subst h0
    have := Close_any rb a c l w h
    rw [show rdByte 101 l = (l1, e1) from hT] at this
    exact this
  · obtain rfl := h.err h0
    simp only [byteE, if_neg h0, Prod.mk.injEq] at hT
    obtain ⟨rfl, rfl⟩ := hT
    exact (Close_err rb a c [] e w h (ne_bool h0)).mono fun r w' ⟨h1, h2⟩ => ⟨h1, ⟨a, c, by rw [h2]; exact h⟩, by rw [h2]; exact grownBy_refl w _⟩

/-- Errors leave nothing; nothing grows. -/
theorem intE_err {e : Int} {l l1 : List UInt8} {e1 n : Int} (h : intE e l = (l1, e1, n)) : (e1 ≠ 0 → l1 = []) ∧ l1.length ≤ l.length := by
  by_cases h0 : e = 0
  · subst h0
    have hr : rdInt l = (l1, e1, n) := h
    by_cases h1 : e1 = 0
    · subst h1
      rw [rdInt_laid hr]
      exact ⟨fun h => absurd rfl h, by simp⟩
    · have : l1 = [] := by
        cases l with
        | nil => simp [rdInt] at hr; exact hr.1
        | cons x l =>
          simp only [rdInt] at hr
          split at hr
          · simp at hr; exact hr.1
          · split at hr
            · split at hr <;> (simp at hr; exact hr.1)
            · split at hr
              · simp only [Prod.mk.injEq] at hr; exact absurd hr.2.1.symm h1
              · simp at hr; exact hr.1
      rw [this]
      exact ⟨fun _ => rfl, Nat.zero_le _⟩
  · simp only [intE, if_neg h0, Prod.mk.injEq] at h
    obtain ⟨rfl, -, -⟩ := h
    exact ⟨fun _ => rfl, Nat.zero_le _⟩
theorem textE_err {most e : Int} {l l1 s : List UInt8} {e1 : Int} (h : textE most e l = (l1, e1, s)) : (e1 ≠ 0 → l1 = []) ∧ l1.length ≤ l.length := by
  by_cases h0 : e = 0
  · subst h0
    have hr : rdText most l = (l1, e1, s) := h
    by_cases h1 : e1 = 0
    · subst h1
      rw [rdText_laid hr]
      exact ⟨fun h => absurd rfl h, by simp⟩
    · have : l1 = [] := by
        cases l with
        | nil => simp [rdText] at hr; exact hr.1
        | cons x l =>
          simp only [rdText] at hr
          split at hr
          · simp at hr; exact hr.1
          · split at hr
            · split at hr <;> (simp at hr; exact hr.1)
            · split at hr
              · simp at hr; exact hr.1
              · split at hr
                · simp at hr; exact hr.1
                · split at hr
                  · simp at hr; exact hr.1
                  · split at hr
                    · simp at hr; exact hr.1
                    · simp only [Prod.mk.injEq] at hr; exact absurd hr.2.1.symm h1
      rw [this]
      exact ⟨fun _ => rfl, Nat.zero_le _⟩
  · simp only [textE, if_neg h0, Prod.mk.injEq] at h
    obtain ⟨rfl, -, -⟩ := h
    exact ⟨fun _ => rfl, Nat.zero_le _⟩
theorem byteE_err {ch : UInt8} {e : Int} {l l1 : List UInt8} {e1 : Int} (h : byteE ch e l = (l1, e1)) : (e1 ≠ 0 → l1 = []) ∧ l1.length ≤ l.length := by
  by_cases h0 : e = 0
  · subst h0
    have hr : rdByte ch l = (l1, e1) := h
    cases l with
    | nil =>
      simp only [rdByte, Prod.mk.injEq] at hr
      obtain ⟨rfl, -⟩ := hr
      exact ⟨fun _ => rfl, Nat.zero_le _⟩
    | cons x l =>
      simp only [rdByte] at hr
      split at hr
      · simp only [Prod.mk.injEq] at hr
        obtain ⟨rfl, rfl⟩ := hr
        exact ⟨fun h => absurd rfl h, by simp⟩
      · simp only [Prod.mk.injEq] at hr
        obtain ⟨rfl, -⟩ := hr
        exact ⟨fun _ => rfl, Nat.zero_le _⟩
  · simp only [byteE, if_neg h0, Prod.mk.injEq] at h
    obtain ⟨rfl, -⟩ := h
    exact ⟨fun _ => rfl, Nat.zero_le _⟩

end Go.Proofs.YtcngifkoopcmeaaGreatDoor
