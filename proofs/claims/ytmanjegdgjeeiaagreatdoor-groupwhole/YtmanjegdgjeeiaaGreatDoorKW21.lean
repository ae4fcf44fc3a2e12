/-
  What slices.Clone and slices.SortFunc do at pairs; the function value that compares two pairs by their names. What own of package group does; two groups compared: by their routes, and of one route by their keys. What Revision of package group does: the bytes of a list of the keys of alerts, by rising keys, and of whether each fires. The document's answer for P1.1, walked: told, Told, Int, Text, List of the reference. List of the reference, walked: it begins with a row of the run-time's own mark, so what it owns is said with that mark. Bytes that are read: the first of them as a text, how many there are, all of them as a text.
-/
import Derived.Test.YtmanjegdgjeeiaaGreatDoorKW07
import Derived.Test.YtmanjegdgjeeiaaGreatDoorKW20
import Derived.Test.YtmanjegdgjeeiaaGreatDoorKW05
import Derived.Lib.SlBytesConst
import Derived.Deep.AppendSrc
import Derived.Deep.RegionWith
import Derived.Laws.AppendOwnNone
import Derived.Test.YtmanjegdgjeeiaaGreatDoorKW04
import Derived.Shelf.Bytes.SlSmallAll
namespace Go.Proofs.YtmanjegdgjeeiaaGreatDoor
open Go.RowKit

/- Clone -/
set_option maxHeartbeats 1000000 in
theorem Clone_zero (q : Addr) (c : Nat) (w : World) :
    Calls Tryz.prog 60 #[.slice (some q) 0 c] w fun e w' => ∃ v, e = .returned v ∧ OwnP w' w.heap.size v [] ∧ Below w.heap.size w w' := by
  obtain ⟨i0, hi, hz0, hz1, hz2⟩ := info_parts infoPair
  have q22 : ∀ (w : World) (a : Option Addr) (n c n' c' : Nat), (binOp .eql 40 (.slice a n c) (.slice none n' c')).run Tryz.prog w = .ok (.bool a.isNone) w := fun w a n c n' c' => Lib.run_eql_slice_nil w _ _ a n c n' c' Tryz.underlying40
  go_enter Tryz.func60, Tryz.ntmps60
  go_wp2_with (at_builtin; refine wpList_append_own _ rfl _ _ 40 rfl w.heap.size 57 i0 _ 2 32 Tryz.underlying40 hi hz0 hz1 hz2 rfl (by decide) _ _ _ rfl (World.ownsRow_made w #[] 0 (Nat.le_refl _) (Nat.zero_le _) (by simp)) q 0 c [] rfl rfl (fun j u hj => by simp at hj) (fun u hu => by simp at hu) (by unfold maxLen; omega) (by omega) (by simp) ?_)
  intro v' w1 hown hgrow hnil
  go_wp2
  go_ret
  refine ⟨v', rfl, hown, ?_⟩
  exact ((Below.refl w.heap.size w).alloc (Nat.le_refl _) _).grown hgrow (by simp) (fun j hj => by simp [Value.ownBlock] at hj; omega)

theorem Clone_any (a : Option Addr) (c : Nat) (ps : List Pr) (w : World) (h : PairsAt w a ps) (hn : ps.length ≤ 4398046511103) :
    Calls Tryz.prog 60 #[.slice a ps.length c] w fun e w' => ∃ v, e = .returned v ∧ OwnP w' w.heap.size v ps ∧ Below w.heap.size w w' := by
  cases a with
  | none =>
    have h0 : ps.length = 0 := by
      by_cases hp : 0 < ps.length
      · obtain ⟨b, o, he, -⟩ := h hp
        cases he
      · omega
    obtain rfl := List.eq_nil_of_length_eq_zero h0
    exact (AnyE.slices_Clone_nil Tryz.lClone 0 c w).mono fun e w' ⟨he, hw⟩ => ⟨_, he, World.ownsRow_nil w' w.heap.size 57 2, by rw [hw]; exact Below.refl _ _⟩
  | some q =>
    by_cases hp : 0 < ps.length
    · obtain ⟨b, o, he, hc⟩ := h hp
      obtain rfl := Option.some.inj he
      obtain ⟨i0, hi, hz0, hz1, hz2⟩ := info_parts infoPair
      refine (AnyE.slices_Clone Tryz.lClone i0 _ 2 32 hi hz0 hz1 hz2 rfl (by decide) Tryz.sizeOf57 b o ps.length c (cellsP ps) w (cellsP_len ps) (by unfold maxLen; omega) (by omega) (PairsAt.cells hc) (cellsP_one ps)).mono ?_
      rintro e w' ⟨v, he, hown, -, hb⟩
      exact ⟨v, he, hown, hb⟩
    · obtain rfl := List.eq_nil_of_length_eq_zero (show ps.length = 0 by omega)
      exact Clone_zero q c w


end Go.Proofs.YtmanjegdgjeeiaaGreatDoor
namespace Go.Proofs.YtmanjegdgjeeiaaGreatDoor
open Go.RowKit

/-- Groups compared. -/
def cmpI (x y : Int) : Int := if x < y then -1 else if y < x then 1 else 0

set_option maxHeartbeats 400000 in
theorem isNaN_any (x : Int) (w : World) : Calls Tryz.prog 63 #[.int .i64 x] w fun e w' => e = .returned (.bool false) ∧ w' = w := by
  go_enter Tryz.func63, Tryz.ntmps63
  go_wp2
  go_ret
  exact ⟨by simp, rfl⟩
set_option maxHeartbeats 1000000 in
set_option maxRecDepth 20000 in
theorem cmpInt_any (x y : Int) (w : World) : Calls Tryz.prog 27 #[.int .i64 x, .int .i64 y] w fun e w' => e = .returned (.int .i64 (cmpI x y)) ∧ w' = w := by
  have H1 := Lib.hid (isNaN_any x w)
  have H2 := Lib.hid (isNaN_any y w)
  by_cases h1 : x < y
  · have HE : Hid (cmpI x y = -1) := Lib.hid (by unfold cmpI; rw [if_pos h1])
    go_enter Tryz.func27, Tryz.ntmps27
    go_wp2_with (first | (go_at_call 63; refine H1.out.mono ?_; rintro e w1 ⟨rfl, rfl⟩) | (go_at_call 63; refine H2.out.mono ?_; rintro e w1 ⟨rfl, rfl⟩))
    go_ret
    exact ⟨by rw [HE.out]; rfl, rfl⟩
  · by_cases h2 : y < x
    · have HE : Hid (cmpI x y = 1) := Lib.hid (by unfold cmpI; rw [if_neg h1, if_pos h2])
      go_enter Tryz.func27, Tryz.ntmps27
      go_wp2_with (first | (go_at_call 63; refine H1.out.mono ?_; rintro e w1 ⟨rfl, rfl⟩) | (go_at_call 63; refine H2.out.mono ?_; rintro e w1 ⟨rfl, rfl⟩))
      go_ret
      exact ⟨by rw [HE.out]; rfl, rfl⟩
    · have HE : Hid (cmpI x y = 0) := Lib.hid (by unfold cmpI; rw [if_neg h1, if_neg h2])
      go_enter Tryz.func27, Tryz.ntmps27
      go_wp2_with (first | (go_at_call 63; refine H1.out.mono ?_; rintro e w1 ⟨rfl, rfl⟩) | (go_at_call 63; refine H2.out.mono ?_; rintro e w1 ⟨rfl, rfl⟩))
      go_ret
      exact ⟨by rw [HE.out]; rfl, rfl⟩

/-- The first of two numbers that is not 0. -/
def orI (x y : Int) : Int := if x = 0 then y else x
set_option maxHeartbeats 1000000 in
theorem cmpOr_any (g : Nat) (x y : Int) (w : World) (h0 : w.cell? ⟨g, 0, none⟩ = some (.int .i64 x)) (h1 : w.cell? ⟨g, 1, none⟩ = some (.int .i64 y)) : Calls Tryz.prog 26 #[.slice (some ⟨g, 0, none⟩) 2 2] w fun e w' => e = .returned (.int .i64 (orI x y)) ∧ w' = w := by
  by_cases hx : x = 0
  · by_cases hy : y = 0
    · have HE : Hid (orI x y = 0) := Lib.hid (by unfold orI; rw [if_pos hx, hy])
      subst hx hy
      go_enter Tryz.func26, Tryz.ntmps26
      go_wp2
      go_loop [8] (fun i => ∃ k : Nat, k ≤ 2 ∧ i = .int .i64 k) (fun i => 2 - (intOf i).toNat)
      case atStart => exact ⟨0, by omega, rfl⟩
      case round =>
        obtain ⟨k, hk, rfl⟩ := hrel
        match k, hk with
        | 0, _ =>
          go_wp2
          go_round
          case rel => exact ⟨1, by omega, by go_num⟩
          case measure => simp [intOf]
        | 1, _ =>
          go_wp2
          go_round
          case rel => exact ⟨2, by omega, by go_num⟩
          case measure => simp [intOf]
        | 2, _ =>
          go_wp2
          go_ret
          exact ⟨by rw [HE.out]; rfl, rfl⟩
    · have HE : Hid (orI x y = y) := Lib.hid (by unfold orI; rw [if_pos hx])
      have hyb : (y != 0) = true := by simpa using hy
      subst hx
      go_enter Tryz.func26, Tryz.ntmps26
      go_wp2
      go_loop [8] (fun i => ∃ k : Nat, k ≤ 1 ∧ i = .int .i64 k) (fun i => 2 - (intOf i).toNat)
      case atStart => exact ⟨0, by omega, rfl⟩
      case round =>
        obtain ⟨k, hk, rfl⟩ := hrel
        match k, hk with
        | 0, _ =>
          go_wp2
          go_round
          case rel => exact ⟨1, by omega, by go_num⟩
          case measure => simp [intOf]
        | 1, _ =>
          go_wp2
          go_ret
          exact ⟨by rw [HE.out]; rfl, rfl⟩
  · have HE : Hid (orI x y = x) := Lib.hid (by unfold orI; rw [if_neg hx])
    have hxb : (x != 0) = true := by simpa using hx
    go_enter Tryz.func26, Tryz.ntmps26
    go_wp2
    go_loop [8] (fun i => i = .int .i64 0) (fun i => 2 - (intOf i).toNat)
    case atStart => rfl
    case round =>
      obtain rfl := hrel
      go_wp2
      go_ret
      exact ⟨by rw [HE.out]; rfl, rfl⟩

end Go.Proofs.YtmanjegdgjeeiaaGreatDoor
namespace Go.Proofs.YtmanjegdgjeeiaaGreatDoor
open Go.RowKit

def firesP (s e now : Int) : Bool := decide (s ≤ now) && decide (now < e)
set_option maxHeartbeats 400000 in
theorem aFires_any (a : Option Addr) (n c : Nat) (s e now : Int) (w : World) : Calls Tryz.prog 47 #[.agg #[.slice a n c, .int .i64 s, .int .i64 e], .int .i64 now] w fun r w' => r = .returned (.bool (firesP s e now)) ∧ Below w.heap.size w w' := by
  have d1 := (Below.refl w.heap.size w).alloc (Nat.le_refl _) (.cells #[.slice a n c, .int .i64 s, .int .i64 e] 42)
  unfold firesP
  by_cases h1 : s ≤ now
  · go_enter Tryz.func47, Tryz.ntmps47
    go_wp2
    go_ret
    exact ⟨by simp [h1], d1⟩
  · go_enter Tryz.func47, Tryz.ntmps47
    go_wp2
    go_ret
    exact ⟨by simp; omega, d1⟩

/-- Whether it fires, as a number. -/
def fireN (r : Rw) (now : Int) : Int := if firesP r.st r.en now then 1 else 0
def partsR (M : List Rw) (now : Int) : List (List UInt8) := M.flatMap fun r => [putText r.key, putInt (fireN r now)]
/-- What alerts say. -/
def revL (L : List Rw) (now : Int) : List UInt8 := if L.length = 0 then [] else putList (partsR (sortR L) now)
theorem partsR_len (now : Int) : ∀ M : List Rw, (partsR M now).length = M.length * 2
  | [] => rfl
  | p :: r => by
    have := partsR_len now r
    simp only [partsR, List.flatMap_cons, List.length_append, List.length_cons] at *
    rw [this]
    simp
    omega
theorem partsR_take (M : List Rw) (now : Int) (k : Nat) (hk : k < M.length) : partsR (M.take (k + 1)) now = partsR (M.take k) now ++ [putText M[k].key, putInt (fireN M[k] now)] := by
  rw [List.take_succ_eq_append_getElem hk]
  unfold partsR
  rw [List.flatMap_append]
  simp
theorem putInt_le (n : Int) (h0 : -9223372036854775808 ≤ n) (h1 : n ≤ 9223372036854775807) : (putInt n).length ≤ 22 := by
  have := itoa_len20 n h0 h1
  simp [putInt]
  omega
theorem fireN_01 (r : Rw) (now : Int) : fireN r now = 0 ∨ fireN r now = 1 := by
  unfold fireN
  split <;> simp
theorem flatR_le (now : Int) : ∀ M : List Rw, (∀ r ∈ M, RwLight r) → (partsR M now).flatten.length ≤ M.length * 2500
  | [], _ => by simp [partsR]
  | p :: r, h => by
    have ih := flatR_le now r fun q hq => h q (List.mem_cons_of_mem _ hq)
    have hp := (h p (List.mem_cons_self ..)).key_le
    have e : partsR (p :: r) now = [putText p.key, putInt (fireN p now)] ++ partsR r now := rfl
    have h1 := itoa_len20 p.key.length (by omega) (by omega)
    have h2 := putInt_le (fireN p now) (by rcases fireN_01 p now with h | h <;> omega) (by rcases fireN_01 p now with h | h <;> omega)
    have h3 : (putText p.key).length = (Lib.itoa p.key.length).length + 1 + p.key.length := by simp [putText]; omega
    rw [e, List.flatten_append, List.length_append]
    simp only [List.flatten_cons, List.flatten_nil, List.append_nil, List.length_append, List.length_cons]
    omega

theorem sortR_len (L : List Rw) : (sortR L).length = L.length := (sortR_perm L).length_eq
theorem keyB (r : Rw) : (⟨r.key.toArray⟩ : ByteArray).data.toList = r.key := rfl
theorem keyZ (r : Rw) : (⟨r.key.toArray⟩ : ByteArray).size = r.key.length := by
  show r.key.toArray.size = _
  simp

/-- A block of a keyed alert. -/
def KdBlk (w : World) (x : Nat) (r : Rw) : Prop := w.heap[x]? = some (.cells #[.slice r.ad r.ps.length r.cp, .int .i64 r.st, .int .i64 r.en, .string ⟨r.key.toArray⟩] 67 (0, 0))
theorem KdBlk.below {w w' : World} {x N : Nat} {r : Rw} (h : KdBlk w x r) (hb : Below N w w') (hN : x < N) : KdBlk w' x r := (hb.block x hN).trans h
theorem KdBlk.cell {w : World} {x : Nat} {r : Rw} (h : KdBlk w x r) : w.cell? ⟨x, 0, none⟩ = some (.slice r.ad r.ps.length r.cp) ∧ w.cell? ⟨x, 1, none⟩ = some (.int .i64 r.st) ∧ w.cell? ⟨x, 2, none⟩ = some (.int .i64 r.en) ∧ w.cell? ⟨x, 3, none⟩ = some (.string ⟨r.key.toArray⟩) := by
  unfold KdBlk at h
  simp [World.cell?, h]
theorem KdBlk.new (w : World) (r : Rw) : KdBlk (w.alloc (.cells #[.slice r.ad r.ps.length r.cp, .int .i64 r.st, .int .i64 r.en, .string ⟨r.key.toArray⟩] 67)) w.heap.size r := heap_alloc_new w _

set_option maxHeartbeats 4000000 in
set_option maxRecDepth 100000 in
theorem gRevision_any (a : Option Addr) (c : Nat) (L : List Rw) (now : Int) (B : Nat) (w : World) (h : AlsAt w a L) (hl : L.length ≤ 40) (hL : ∀ r ∈ L, RwLight r) (hB : B ≤ w.heap.size) (hvv : VarsOk B w) (n : Nat) (hn : n = L.length) :
    Calls Tryz.prog 17 #[.slice a n c, .int .i64 now] w fun e w' => e = .returned (.string ⟨(revL L now).toArray⟩) ∧ Below w.heap.size w w' := by
  by_cases h0 : n = 0
  · have e0 : revL L now = [] := by unfold revL; rw [if_pos (by omega)]
    have HE := Lib.hid e0
    subst h0
    clear e0 hn
    go_enter Tryz.func17, Tryz.ntmps17
    go_wp2
    go_ret
    exact ⟨by rw [HE.out]; rfl, Below.refl _ _⟩
  · obtain ⟨i0, hi, hi0, hi1, hi2⟩ := info_parts infoBytes
    have HBK := Lib.hid (gByKey_any a c L B w h hl hL hB hvv.tabOk n hn)
    have HRV : Hid (revL L now = putList (partsR (sortR L) now)) := Lib.hid (by unfold revL; rw [if_neg (by omega)])
    have HLM : Hid (∀ r ∈ sortR L, RwLight r) := Lib.hid fun r hr => hL r ((sortR_perm L).mem_iff.1 hr)
    have hM := sortR_len L
    have hMn : (sortR L).length ≤ n ∧ n ≤ (sortR L).length := by omega
    have hn40 : n ≤ 40 := by omega
    have HNM : Hid (n = (sortR L).length) := Lib.hid (by omega)
    have hnz : ((n : Int) == 0) = false := by rw [beq_eq_false_iff_ne]; omega
    generalize sortR L = M at *
    clear h hl hL hn hM h0
    go_enter Tryz.func17, Tryz.ntmps17
    go_wp2_with (go_at_call 22; refine HBK.out.mono ?_; rintro e w1 ⟨a1, c1, rfl, hk1, hb1⟩; refine Hid.out ?_)
    refine Lib.hid ?_
    have hs1 := hb1.size
    have HK1 := Lib.hid hk1
    clear HBK hk1
    go_wp2
    go_loopw [5, 15] (fun v i wr => ∃ (k : Nat) (a7 : Option Addr) (n7 c7 : Nat) (vs : List Value), k ≤ n ∧ i = .int .i64 k ∧ v = .slice a7 n7 c7 ∧ RowOf wr w1.heap.size (.slice a7 n7 c7) vs (partsR (M.take k) now) ∧ Below w1.heap.size w1 wr) (fun _ i _ => n - (intOf i).toNat)
    case atStart => exact ⟨0, none, 0, 0, [], Nat.zero_le _, rfl, rfl, RowOf.nil _ _, Below.refl _ _⟩
    case round =>
      obtain ⟨k, a7, n7, c7, vs, hk, rfl, rfl, hrow, hnx⟩ := hrel
      have hsr := hnx.size
      have hvr := (hvv.on (hb1.mono hB)).on (hnx.mono (by omega))
      by_cases hlt : k < n
      · have hkl : (k : Int) < (n : Int) := by omega
        have hkM : k < M.length := by omega
        obtain ⟨g, rfl, -, hgl, hc⟩ := HK1.out (by omega)
        obtain ⟨hc1, hc2, hc3, hc4⟩ := hc k hkM
        rw [← hnx.cell (p := ⟨g, k * 4, none⟩) hgl] at hc1
        rw [← hnx.cell (p := ⟨g, k * 4 + 1, none⟩) hgl] at hc2
        rw [← hnx.cell (p := ⟨g, k * 4 + 2, none⟩) hgl] at hc3
        rw [← hnx.cell (p := ⟨g, k * 4 + 3, none⟩) hgl] at hc4
        have hli := HLM.out M[k] (List.getElem_mem _)
        have hlen := hrow.len
        rw [partsR_len, List.length_take] at hlen
        have hlb : vs.length ≤ 80 := by omega
        clear hlen hc
        have HM := Lib.hid (partsR_take M now k hkM)
        have h01 := fireN_01 M[k] now
        have HFN : Hid (fireN M[k] now = if firesP M[k].st M[k].en now then 1 else 0) := Lib.hid rfl
        generalize M[k] = r0 at *
        have hkz := keyZ r0
        have hke := hli.key_le
        have kb := KdBlk.new wr r0
        have dwb := (Below.refl wr.heap.size wr).alloc (Nat.le_refl _) (.cells #[.slice r0.ad r0.ps.length r0.cp, .int .i64 r0.st, .int .i64 r0.en, .string ⟨r0.key.toArray⟩] 67)
        have hsb : (wr.alloc (.cells #[.slice r0.ad r0.ps.length r0.cp, .int .i64 r0.st, .int .i64 r0.en, .string ⟨r0.key.toArray⟩] 67)).heap.size = wr.heap.size + 1 := by simp
        have HF := Lib.hid (aFires_any r0.ad r0.ps.length r0.cp r0.st r0.en now (wr.alloc (.cells #[.slice r0.ad r0.ps.length r0.cp, .int .i64 r0.st, .int .i64 r0.en, .string ⟨r0.key.toArray⟩] 67)))
        have HKB := Lib.hid (And.intro kb (And.intro dwb hsb))
        clear kb dwb hsb
        cases hf : firesP r0.st r0.en now with
        | true =>
          have hfz : fireN r0 now = 1 := by rw [HFN.out, hf]; rfl
          rw [hfz] at HM
          rw [hf] at HF
          clear h01 hfz HFN hf
          go_wp2_with (go_at_call 47; refine HF.out.mono ?_; rintro e w2 ⟨rfl, hb2⟩; refine Hid.out ?_)
          refine Lib.hid ?_
          obtain ⟨kb, dwb, hsb⟩ := HKB.out
          have k2 := kb.below hb2 (by omega)
          obtain ⟨-, -, -, c4⟩ := k2.cell
          have e2 : Below wr.heap.size wr w2 := dwb.trans (hb2.mono (by omega))
          have hs2 := e2.size
          have hv2 := hvr.on (e2.mono (by omega))
          have HT := Lib.hid (Text_val ⟨r0.key.toArray⟩ (by omega) B w2 (by omega) hv2)
          rw [keyB] at HT
          clear kb dwb hsb HKB hc1 hc2 hc3 hc4 hb2 k2 HF
          go_wp2_with (go_at_call 43; refine HT.out.mono ?_; rintro e w3 ⟨a3, k3, c3, rfl, ho3, hb3⟩; refine Hid.out ?_)
          refine Lib.hid ?_
          have hs3 := hb3.size
          have HI := Lib.hid (Int_val 1 (by omega) (by omega) B w3 (by omega) (hv2.on (hb3.mono (by omega))))
          clear HT c4
          go_wp2_with (go_at_call 42; refine HI.out.mono ?_; rintro e w4 ⟨a4, k4, c4, rfl, ho4, hb4⟩; refine Hid.out ?_)
          refine Lib.hid ?_
          have hs4 := hb4.size
          have e4 : Below wr.heap.size wr w4 := (e2.trans (hb3.mono hs2)).trans (hb4.mono (by omega))
          have hrow4 := hrow.below e4
          go_wp2_with (at_builtin; refine wpList_append_lies _ (by rfl) _ _ 88 (by rfl) w1.heap.size 86 i0 (.slice none 0 0) 1 24 Tryz.underlying88 hi hi0 hi1 hi2 rfl (by decide) (.slice a7 n7 c7) vs.length vs (by rfl) (hrow4.own.alloc _) ⟨w4.heap.size, 0, none⟩ 2 2 [.slice a3 k3 c3, .slice a4 k4 c4] (by rfl) rfl (World.news_of_block (cs := #[.slice a3 k3 c3, .slice a4 k4 c4]) (heap_alloc_new _ _)) (by intro u' hu'; simp at hu'; rcases hu' with rfl | rfl <;> rfl) (by decide) (by unfold maxLen; omega) (by omega) (by simp; omega) (w4.heap.size + 1) (by simp) ?_; refine Hid.out ?_)
          refine Lib.hid ?_
          intro g5 cap w5 hown5 hgrow5 hat5 hlt5
          have hrow5 : RowOf w5 w1.heap.size (.slice (some ⟨g5, 0, none⟩) (vs.length + 2) cap) (vs ++ [.slice a3 k3 c3, .slice a4 k4 c4]) (partsR (M.take (k + 1)) now) := by
            rw [HM.out]
            refine hrow.steps e4 rfl (fun j hj => ?_) ?_ hown5 hgrow5 (hat5.imp (fun e => e.symm) (fun e => by rw [e]; rfl))
            · match j, hj with
              | 0, _ => exact (ho3.src).below hb4 (Nat.le_refl _)
              | 1, _ => exact ho4.src
            · intro y hy q n' c' e
              simp only [List.mem_cons, List.not_mem_nil, or_false] at hy
              rcases hy with rfl | rfl
              · have := own_block_lt ho3 q n' c' e
                omega
              · have := own_block_lt ho4 q n' c' e
                omega
          have hnx5 : Below w1.heap.size w1 w5 := ((hnx.trans (e4.mono hsr)).alloc (by omega) _).grown hgrow5 (by simp; omega) (fun j hj => (hrow.own.lt j hj).1)
          clear hown5 hgrow5 hat5
          go_wp2
          go_roundw
          case rel => exact ⟨k + 1, _, _, _, _, by omega, by go_num, rfl, hrow5, hnx5⟩
          case measure => simp [intOf]; omega
        | false =>
          have hfz : fireN r0 now = 0 := by rw [HFN.out, hf]; rfl
          rw [hfz] at HM
          rw [hf] at HF
          clear h01 hfz HFN hf
          go_wp2_with (go_at_call 47; refine HF.out.mono ?_; rintro e w2 ⟨rfl, hb2⟩; refine Hid.out ?_)
          refine Lib.hid ?_
          obtain ⟨kb, dwb, hsb⟩ := HKB.out
          have k2 := kb.below hb2 (by omega)
          obtain ⟨-, -, -, c4⟩ := k2.cell
          have e2 : Below wr.heap.size wr w2 := dwb.trans (hb2.mono (by omega))
          have hs2 := e2.size
          have hv2 := hvr.on (e2.mono (by omega))
          have HT := Lib.hid (Text_val ⟨r0.key.toArray⟩ (by omega) B w2 (by omega) hv2)
          rw [keyB] at HT
          clear kb dwb hsb HKB hc1 hc2 hc3 hc4 hb2 k2 HF
          go_wp2_with (go_at_call 43; refine HT.out.mono ?_; rintro e w3 ⟨a3, k3, c3, rfl, ho3, hb3⟩; refine Hid.out ?_)
          refine Lib.hid ?_
          have hs3 := hb3.size
          have HI := Lib.hid (Int_val 0 (by omega) (by omega) B w3 (by omega) (hv2.on (hb3.mono (by omega))))
          clear HT c4
          go_wp2_with (go_at_call 42; refine HI.out.mono ?_; rintro e w4 ⟨a4, k4, c4, rfl, ho4, hb4⟩; refine Hid.out ?_)
          refine Lib.hid ?_
          have hs4 := hb4.size
          have e4 : Below wr.heap.size wr w4 := (e2.trans (hb3.mono hs2)).trans (hb4.mono (by omega))
          have hrow4 := hrow.below e4
          go_wp2_with (at_builtin; refine wpList_append_lies _ (by rfl) _ _ 88 (by rfl) w1.heap.size 86 i0 (.slice none 0 0) 1 24 Tryz.underlying88 hi hi0 hi1 hi2 rfl (by decide) (.slice a7 n7 c7) vs.length vs (by rfl) (hrow4.own.alloc _) ⟨w4.heap.size, 0, none⟩ 2 2 [.slice a3 k3 c3, .slice a4 k4 c4] (by rfl) rfl (World.news_of_block (cs := #[.slice a3 k3 c3, .slice a4 k4 c4]) (heap_alloc_new _ _)) (by intro u' hu'; simp at hu'; rcases hu' with rfl | rfl <;> rfl) (by decide) (by unfold maxLen; omega) (by omega) (by simp; omega) (w4.heap.size + 1) (by simp) ?_; refine Hid.out ?_)
          refine Lib.hid ?_
          intro g5 cap w5 hown5 hgrow5 hat5 hlt5
          have hrow5 : RowOf w5 w1.heap.size (.slice (some ⟨g5, 0, none⟩) (vs.length + 2) cap) (vs ++ [.slice a3 k3 c3, .slice a4 k4 c4]) (partsR (M.take (k + 1)) now) := by
            rw [HM.out]
            refine hrow.steps e4 rfl (fun j hj => ?_) ?_ hown5 hgrow5 (hat5.imp (fun e => e.symm) (fun e => by rw [e]; rfl))
            · match j, hj with
              | 0, _ => exact (ho3.src).below hb4 (Nat.le_refl _)
              | 1, _ => exact ho4.src
            · intro y hy q n' c' e
              simp only [List.mem_cons, List.not_mem_nil, or_false] at hy
              rcases hy with rfl | rfl
              · have := own_block_lt ho3 q n' c' e
                omega
              · have := own_block_lt ho4 q n' c' e
                omega
          have hnx5 : Below w1.heap.size w1 w5 := ((hnx.trans (e4.mono hsr)).alloc (by omega) _).grown hgrow5 (by simp; omega) (fun j hj => (hrow.own.lt j hj).1)
          clear hown5 hgrow5 hat5
          go_wp2
          go_roundw
          case rel => exact ⟨k + 1, _, _, _, _, by omega, by go_num, rfl, hrow5, hnx5⟩
          case measure => simp [intOf]; omega
      · obtain rfl : k = n := by omega
        rw [List.take_of_length_le (by omega)] at hrow
        obtain ⟨hn7, hparts⟩ := hrow.parts
        have hfl := flatR_le now M HLM.out
        have HL := Lib.hid (List_val a7 c7 (partsR M now) wr hparts (by rw [partsR_len]; omega) (by omega) n7 hn7)
        clear hparts hn7 hfl
        go_wp2_with (go_at_call 44; refine HL.out.mono ?_; rintro e w4 ⟨a4, k4, c4, rfl, ho4, hb4⟩; refine Hid.out ?_)
        refine Lib.hid ?_
        have hcv := own_string ho4
        go_wp2
        go_ret
        exact ⟨by rw [HRV.out]; rfl, (hb1.trans (hnx.mono hs1)).trans (hb4.mono (by omega))⟩

end Go.Proofs.YtmanjegdgjeeiaaGreatDoor
namespace Go.Proofs.YtmanjegdgjeeiaaGreatDoor
open Go.RowKit

theorem digit_slice (x : Int) (h0 : 0 ≤ x) (h1 : x < 10) (W : World) :
    (Instr.slice 9 (.string ⟨#[48, 49, 50, 51, 52, 53, 54, 55, 56, 57]⟩) (some (.int .u64 x)) (some (.int .u64 (x + 1))) none).run Tryz.prog W = .ok (.string ⟨#[UInt8.ofNat (48 + x.toNat)]⟩) W := by
  have h : x = 0 ∨ x = 1 ∨ x = 2 ∨ x = 3 ∨ x = 4 ∨ x = 5 ∨ x = 6 ∨ x = 7 ∨ x = 8 ∨ x = 9 := by omega
  rcases h with rfl | rfl | rfl | rfl | rfl | rfl | rfl | rfl | rfl | rfl <;> (show _ = _; kernel_rfl)

theorem str_append (a b : List UInt8) : (⟨a.toArray⟩ ++ ⟨b.toArray⟩ : ByteArray) = ⟨(a ++ b).toArray⟩ := by
  apply ByteArray.ext; simp

/-- One digit more ahead. -/
theorem digit_step {u : Nat} {m : Int} {l : List UInt8} (h0 : 0 ≤ m) (h : (l = [] ∧ m = u) ∨ (0 < m ∧ Lib.decDigits u = Lib.decDigits m.toNat ++ l)) :
    (m / 10 = 0 → Lib.decDigits u = UInt8.ofNat (48 + (m % 10).toNat) :: l) ∧ (m / 10 ≠ 0 → Lib.decDigits u = Lib.decDigits (m / 10).toNat ++ (UInt8.ofNat (48 + (m % 10).toNat) :: l)) := by
  have hd : Lib.decDigits u = Lib.decDigits m.toNat ++ l := by
    rcases h with ⟨rfl, rfl⟩ | ⟨_, h⟩
    · simp
    · exact h
  refine ⟨fun hz => ?_, fun hz => ?_⟩
  · rw [hd, Lib.decDigits, dif_pos (by omega), show (m % 10).toNat = m.toNat by omega]; rfl
  · rw [hd, Lib.decDigits, dif_neg (by omega), show m.toNat / 10 = (m / 10).toNat by omega, show m.toNat % 10 = (m % 10).toNat by omega, List.append_assoc]; rfl

set_option maxHeartbeats 1000000 in
set_option maxRecDepth 100000 in
theorem told_any (u : Nat) (hu : u < 18446744073709551616) (w : World) :
    Calls Tryz.prog 125 #[.int .u64 u] w fun e w' => e = .returned (.string ⟨(Lib.decDigits u).toArray⟩) ∧ w' = w := by
  go_enter Tryz.func125, Tryz.ntmps125
  go_wp2
  go_loop [0, 3] (fun n s => ∃ (m : Int) (l : List UInt8), n = .int .u64 m ∧ s = .string ⟨l.toArray⟩ ∧ 0 ≤ m ∧ m ≤ 18446744073709551615 ∧ l.length ≤ 20 ∧ Hid ((l = [] ∧ m = u) ∨ (0 < m ∧ Lib.decDigits u = Lib.decDigits m.toNat ++ l))) (fun n _ => (intOf n).toNat)
  case atStart => exact ⟨u, [], rfl, rfl, by omega, by omega, by simp, .inl ⟨rfl, rfl⟩⟩
  case round =>
    obtain ⟨m, l, rfl, rfl, h0, h1, hl, H⟩ := hrel
    have hst := digit_step h0 H.out
    have hds := fun W => digit_slice (m % 10) (Int.emod_nonneg _ (by decide)) (Int.emod_lt_of_pos _ (by decide)) W
    have hlen : (Lib.decDigits u).length ≤ 20 := by rw [Lib.decDigits_length]; exact Lib.nDigits_le20 u hu
    generalize UInt8.ofNat (48 + (m % 10).toNat) = dg at *
    have HS := Lib.hid hst
    have HL := Lib.hid hlen
    clear hst hlen
    by_cases hz : m / 10 = 0
    · have hzb : (m / 10 == 0) = true := by rw [hz]; rfl
      have HZ := Lib.hid hz
      clear hz
      go_wp2
      go_ret
      refine ⟨?_, rfl⟩
      rw [HS.out.1 HZ.out]
      congr 2
    · have hzb : (m / 10 == 0) = false := by simpa using hz
      have HZ := Lib.hid hz
      clear hz
      go_wp2
      go_round
      case rel =>
        refine ⟨m / 10, dg :: l, rfl, congrArg Value.string (str_append [dg] l), by omega, by omega, ?_, .inr ⟨?_, HS.out.2 HZ.out⟩⟩
        · have h1 := HL.out
          rw [HS.out.2 HZ.out, List.length_append] at h1
          omega
        · have := HZ.out; omega
      case measure =>
        have := HZ.out
        simp [intOf]; omega

theorem told_int (x : Int) (h0 : 0 ≤ x) (h1 : x ≤ 18446744073709551615) (w : World) :
    Calls Tryz.prog 125 #[.int .u64 x] w fun e w' => e = .returned (.string ⟨(Lib.decDigits x.toNat).toArray⟩) ∧ w' = w := by
  have := told_any x.toNat (by omega) w
  rw [Int.toNat_of_nonneg h0] at this
  exact this

set_option maxHeartbeats 1000000 in
set_option maxRecDepth 100000 in
theorem Told_any (n : Int) (h0 : -9223372036854775808 ≤ n) (h1 : n ≤ 9223372036854775807) (w : World) :
    Calls Tryz.prog 104 #[.int .i64 n] w fun e w' => e = .returned (.string ⟨(Lib.itoa n).toArray⟩) ∧ w' = w := by
  have hlen := itoa_len20 n h0 h1
  by_cases hn : n < 0
  · have hit : Lib.itoa n = 45 :: Lib.decDigits n.natAbs := by unfold Lib.itoa; rw [if_pos hn]
    rw [hit] at hlen
    simp only [List.length_cons] at hlen
    have HI := Lib.hid hit
    clear hit
    go_enter Tryz.func104, Tryz.ntmps104
    go_wp2_with (go_at_call 125; refine (told_int (-(n + 1) + 1) (by omega) (by omega) _).mono ?_; rintro e w1 ⟨rfl, rfl⟩; refine Hid.out ?_)
    refine Lib.hid ?_
    rw [show (-(n + 1) + 1).toNat = n.natAbs by omega]
    generalize Lib.decDigits n.natAbs = d at *
    go_wp2
    go_ret
    refine ⟨?_, rfl⟩
    rw [HI.out]
    exact congrArg (fun x => Ending.returned (Value.string x)) (str_append [45] d)
  · have hit : Lib.itoa n = Lib.decDigits n.toNat := by unfold Lib.itoa; rw [if_neg hn]
    have HI := Lib.hid hit
    clear hit
    go_enter Tryz.func104, Tryz.ntmps104
    go_wp2_with (go_at_call 125; refine (told_int n (by omega) (by omega) _).mono ?_; rintro e w1 ⟨rfl, rfl⟩)
    go_ret
    exact ⟨by rw [HI.out]; simp, rfl⟩

/-- []byte(s) of a text that is made. -/
theorem bytes_of_str (w : World) (l : List UInt8) : ∃ a c w', (convert 9 86 (.string ⟨l.toArray⟩)).run Tryz.prog w = .ok (.slice (some a) l.length c) w' ∧ SrcAt w' (.slice (some a) l.length c) l ∧ w.heap.size ≤ a.block ∧ Below w.heap.size w w' := by
  refine ⟨⟨w.heap.size, 0, none⟩, _, _, Lib.run_convert_string_bytes w 9 86 5 ⟨l.toArray⟩ Tryz.underlying9 Tryz.underlying86 Tryz.underlying5, .inr ⟨_, _, rfl, fun i hi => ?_⟩, Nat.le_refl _, Lib.bytesWorld_below _ _ _⟩
  rw [Go.WideShapes.add_plain, Nat.zero_add, Lib.bytesWorld_cell w 5 ⟨l.toArray⟩ i (by show i < l.toArray.size; simpa using hi)]
  simp [List.getD, hi]

set_option maxHeartbeats 1000000 in
set_option maxRecDepth 100000 in
theorem refInt_any (n : Int) (h0 : -9223372036854775808 ≤ n) (h1 : n ≤ 9223372036854775807) (w : World) :
    Calls Tryz.prog 71 #[.int .i64 n] w fun e w' => ∃ a k c, e = .returned (.slice (some a) k c) ∧ SrcAt w' (.slice (some a) k c) (putInt n) ∧ w.heap.size ≤ a.block ∧ Below w.heap.size w w' := by
  have hlen := itoa_len20 n h0 h1
  obtain ⟨a, c, w', hcv, hsrc, hab, hb⟩ := bytes_of_str w (putInt n)
  have e1 : (⟨(putInt n).toArray⟩ : ByteArray) = ⟨#[105]⟩ ++ ⟨(Lib.itoa n).toArray⟩ ++ ⟨#[101]⟩ := by apply ByteArray.ext; simp [putInt]
  rw [e1] at hcv
  have HS := Lib.hid hsrc
  have HT := Lib.hid (Told_any n h0 h1 w)
  clear hsrc e1
  generalize hk : (putInt n).length = k at *
  have HK := Lib.hid hk
  clear hk
  generalize Lib.itoa n = d at *
  go_enter Tryz.func71, Tryz.ntmps71
  go_wp2_with (go_at_call 104; refine HT.out.mono ?_; rintro e w1 ⟨rfl, rfl⟩)
  go_ret
  exact ⟨a, k, c, rfl, HS.out, hab, hb⟩

set_option maxHeartbeats 1000000 in
set_option maxRecDepth 100000 in
theorem refText_any (s : ByteArray) (hs : s.size ≤ 140737488351232) (w : World) :
    Calls Tryz.prog 72 #[.string s] w fun e w' => ∃ a k c, e = .returned (.slice (some a) k c) ∧ SrcAt w' (.slice (some a) k c) (putText s.data.toList) ∧ w.heap.size ≤ a.block ∧ Below w.heap.size w w' := by
  have hlen := itoa_len20 s.size (by omega) (by omega)
  obtain ⟨a, c, w', hcv, hsrc, hab, hb⟩ := bytes_of_str w (putText s.data.toList)
  have e1 : (⟨(putText s.data.toList).toArray⟩ : ByteArray) = ⟨(Lib.itoa s.size).toArray⟩ ++ ⟨#[58]⟩ ++ s := by
    apply ByteArray.ext
    simp [putText]
  rw [e1] at hcv
  have HS := Lib.hid hsrc
  have HT := Lib.hid (Told_any s.size (by omega) (by omega) w)
  clear hsrc e1
  generalize hk : (putText s.data.toList).length = k at *
  have HK := Lib.hid hk
  clear hk
  generalize Lib.itoa s.size = d at *
  go_enter Tryz.func72, Tryz.ntmps72
  go_wp2_with (go_at_call 104; refine HT.out.mono ?_; rintro e w1 ⟨rfl, rfl⟩)
  go_ret
  exact ⟨a, k, c, rfl, HS.out, hab, hb⟩

end Go.Proofs.YtmanjegdgjeeiaaGreatDoor
namespace Go.Proofs.YtmanjegdgjeeiaaGreatDoor
open Go.RowKit

/-- Bytes in a block from B on: a row of the call's own, or a full one that bears a mark. -/
def OwnM (w : World) (B : Nat) (v : Value) (l : List UInt8) : Prop :=
  Own w B v l ∨ ∃ g, v = .slice (some ⟨g, 0, none⟩) l.length l.length ∧ B ≤ g ∧ g < w.heap.size ∧ ∀ i (hi : i < l.length), w.cell? ⟨g, i, none⟩ = some (.int .u8 (l[i].toNat : Int))

theorem OwnM.src {w : World} {B : Nat} {v : Value} {l : List UInt8} (h : OwnM w B v l) : SrcAt w v l := by
  rcases h with h | ⟨g, rfl, _, _, hc⟩
  · exact h.src
  · exact .inr ⟨⟨g, 0, none⟩, l.length, rfl, fun i hi => by rw [Go.WideShapes.add_plain, Nat.zero_add]; exact hc i hi⟩

theorem OwnM.lt {w : World} {B : Nat} {v : Value} {l : List UInt8} (h : OwnM w B v l) : ∀ k, v.ownBlock = some k → B ≤ k := by
  rcases h with h | ⟨g, rfl, hB, _, hc⟩
  · exact fun k hk => (World.ownsRow.lt h k hk).1
  · intro k hk; cases hk; exact hB

theorem OwnM.form {w : World} {B : Nat} {v : Value} {l : List UInt8} (h : OwnM w B v l) : ∃ a k c, v = .slice a k c := by
  rcases h with h | ⟨g, rfl, _⟩
  · exact h.form
  · exact ⟨_, _, _, rfl⟩

/-- append of bytes that are read. -/
theorem append_m (ty : TypeId) (w : World) (B : Nat) (v x : Value) (l g : List UInt8) (h : OwnM w B v l) (hx : SrcAt w x g) (hB : B ≤ w.heap.size) (hl : l.length + g.length ≤ 140737488355328) :
    ∃ v' w', (Builtin.append_ #[86, 86] ty #[v, x]).run Tryz.prog w = .ok v' w' ∧ OwnM w' B v' (l ++ g) ∧ w.grownBy w' v.ownBlock := by
  obtain ⟨i0, hi, hz0, hz1, hz2⟩ := info_parts infoByte
  have hcells : ∀ {q : Addr} {c : Nat}, (∀ i (hi : i < g.length), w.cell? (q.add i) = some (.int .u8 (g[i].toNat : Int))) → ∀ j u, (Lib.byteCells g)[j]? = some u → w.cell? (q.add j) = some u := by
    intro q c hc j u hj
    simp only [Lib.byteCells, List.getElem?_map, Option.map_eq_some_iff] at hj
    obtain ⟨y, hy, rfl⟩ := hj
    obtain ⟨hj1, rfl⟩ := List.getElem?_eq_some_iff.1 hy
    exact hc j hj1
  have hone : ∀ u ∈ Lib.byteCells g, u.oneCell' = true := by
    intro u hu; simp only [Lib.byteCells, List.mem_map] at hu; obtain ⟨y, _, rfl⟩ := hu; rfl
  rcases h with h | ⟨b, rfl, hBb, hblt, hc⟩
  · rcases hx with ⟨rfl, rfl⟩ | ⟨q, c, rfl, hc⟩
    · exact ⟨v, w, run_append_owned_none (P := Tryz.prog) (w := w) B 86 ty 5 i0 1 Tryz.underlying86 hi v _ _ h, .inl (by rw [List.append_nil]; exact h), grownBy_refl _ _⟩
    · obtain ⟨v', w', hr, ho, hg, _⟩ := run_append_own (P := Tryz.prog) w B 86 ty 5 i0 (.int .u8 0) 1 1 Tryz.underlying86 hi hz0 hz1 hz2 rfl (by decide) v _ _ h q g.length c (Lib.byteCells g) (by simp [Lib.byteCells]) (hcells (c := c) hc) hone (by unfold maxLen; omega) (by omega) hB
      exact ⟨v', w', hr, .inl (Own.of ho (by simp [Lib.byteCells])), hg⟩
  · have hsrc : Src Tryz.prog i0.size 86 x g.length (Lib.byteCells g) w := by
      rw [hz1]
      rcases hx with ⟨rfl, rfl⟩ | ⟨q, c, rfl, hcq⟩
      · exact Src.ofNil w Tryz.underlying86 0
      · exact Src.ofSlice w Tryz.underlying86 q g.length c (Lib.byteCells g) (by simp [Lib.byteCells]) (hcells (c := c) hcq) hone
    cases g with
    | nil =>
      refine ⟨_, w, ?_, .inr ⟨b, rfl, hBb, hblt, ?_⟩, grownBy_refl _ _⟩
      · have := run_append_room_src w 86 86 ty 5 i0 Tryz.underlying86 hi b 0 l.length l.length x 0 [] hsrc (by omega) (fun j hj => absurd hj (by simp)) (fun j hj => absurd hj (by simp))
        simpa [World.setCells] using this
      · intro i hi; simp only [List.append_nil] at hi ⊢; exact hc i hi
    | cons y g =>
      have hlc : ∀ j v, (Lib.byteCells l)[j]? = some v → w.drew.cell? ((⟨b, 0, none⟩ : Addr).add j) = some v := by
        intro j u hj
        simp only [Lib.byteCells, List.getElem?_map, Option.map_eq_some_iff] at hj
        obtain ⟨z, hz, rfl⟩ := hj
        obtain ⟨hj1, rfl⟩ := List.getElem?_eq_some_iff.1 hz
        rw [Go.WideShapes.add_plain, Nat.zero_add]
        exact hc j hj1
      have hrun := run_append_grow_src w 86 86 ty 5 i0 (.int .u8 0) Tryz.underlying86 hi hz0 (some ⟨b, 0, none⟩) l.length l.length (Lib.byteCells l) (by
        rw [hz1]
        exact run_firstCells_some w.drew 1 l.length ⟨b, 0, none⟩ l.length l.length (Lib.byteCells l) (by simp [Lib.byteCells]) hlc) x (y :: g).length _ hsrc (by simp) (by simp at hl ⊢; omega) (growslice_fits (by simp) (by rw [hz2]; simp at hl ⊢; omega))
      refine ⟨_, _, hrun, .inl ?_, ?_⟩
      · have hge := grownCap_ge w (l.length + (y :: g).length) l.length 5
        have hcm := grownCap_le_maxLen w (l.length + (y :: g).length) l.length 5 (by unfold maxLen; omega)
        have hlen : (Lib.byteCells l ++ Lib.byteCells (y :: g)).length = l.length + (y :: g).length := by simp [Lib.byteCells]
        refine Own.of (n := l.length + (y :: g).length) (xs := Lib.byteCells l ++ Lib.byteCells (y :: g)) ⟨by rw [hlen, Nat.mul_one], .inr ⟨w.heap.size, _, _, rfl, hB, heap_alloc_new w.drew _, hge, hcm, ?_, ?_⟩⟩ (by simp [Lib.byteCells])
        · generalize grownCap w (l.length + (y :: g).length) l.length 5 = C at *
          simp only [Array.size_append, List.size_toArray, size_zeroCells, hlen, Value.cells]
          simp
          simp only [List.length_cons] at hge
          omega
        · rw [Nat.mul_one, ← hlen, Array.toList_append]
          exact List.take_left
      · refine grownBy_of_below ?_
        exact (Below.refl _ _).drew.alloc (Nat.le_refl _) _

theorem wpList_append_m {w : World} {ops : Array Oper} {rest : List Oper} {o : Oper} {a : Act} {Q : Exit → Act → World → Prop} (hgd : o.guard = none) (s x : Operand)
    (ho : o.op = .call { callee := .builtin .append, args := #[s, x], argTypes := #[86, 86] }) (B : Nat) (v y : Value) (l g : List UInt8) (hs : a.eval s = v) (hx : a.eval x = y)
    (hown : OwnM w B v l) (hsrc : SrcAt w y g) (hB : B ≤ w.heap.size) (hl : l.length + g.length ≤ 140737488355328)
    (h : ∀ v' w', OwnM w' B v' (l ++ g) → w.grownBy w' v.ownBlock → wpList Tryz.prog ops Q rest (a.put o.dst v') w') : wpList Tryz.prog ops Q (o :: rest) a w := by
  obtain ⟨v', w', hr, h2, h3⟩ := append_m o.type w B v y l g hown hsrc hB hl
  refine wpList_plain hgd fun K hK => ?_
  unfold Oper.wp execOp
  simp only [ho, resolve, invoke, builtin, Sem.run_bind, Sem.run_pure, Result.andThen_ok, List.map_toArray, List.map_cons, List.map_nil, hs, hx, hr]
  exact hK _ _ (h v' w' h2 h3)

set_option maxHeartbeats 1000000 in
set_option maxRecDepth 100000 in
theorem refList_own (q : Option Addr) (c : Nat) (ls : List (List UInt8)) (w : World) (h : PartsAt w q ls) (hn : ls.length ≤ 140737488355328) (hl : ls.flatten.length ≤ 140737488355000) :
    Calls Tryz.prog 73 #[.slice q ls.length c] w fun e w' => ∃ a k c, e = .returned (.slice a k c) ∧ OwnM w' w.heap.size (.slice a k c) (putList ls) ∧ Below w.heap.size w w' := by
  have kc := fun (w : World) (C : Array Value) (n c : Nat) => Lib.run_convert_bytes_const (P := Tryz.prog) w 86 5 C n c Tryz.underlying86 Tryz.underlying5
  go_enter Tryz.func73, Tryz.ntmps73
  go_wp2
  clear kc
  go_loopw [3, 4] (fun v i wr => ∃ (k : Nat) (a3 : Option Addr) (n3 c3 : Nat), k ≤ ls.length ∧ i = .int .i64 k ∧ v = .slice a3 n3 c3 ∧ OwnM wr w.heap.size (.slice a3 n3 c3) (108 :: (ls.take k).flatten) ∧ Below w.heap.size w wr) (fun _ i _ => ls.length - (intOf i).toNat)
  case atStart =>
    refine ⟨0, _, _, _, Nat.zero_le _, rfl, rfl, .inr ⟨w.heap.size, rfl, Nat.le_refl _, by simp, fun i hi => ?_⟩, (Below.refl _ _).alloc (Nat.le_refl _) _⟩
    rw [World.cell?_alloc_mark]
    match i, hi with
    | 0, _ => rfl
  case round =>
    obtain ⟨k, a3, n3, c3, hk, rfl, rfl, hown, hnx⟩ := hrel
    have hs1 := hnx.size
    by_cases hlt : k < ls.length
    · obtain ⟨b, o, rfl, hc⟩ := h (by omega)
      obtain ⟨v1, hcell, hsrc⟩ := hc k hlt
      have hcell1 : wr.cell? ⟨b, o + k, none⟩ = some v1 := by rw [hnx.cell (p := ⟨b, o + k, none⟩) (World.block_lt_of_cell? w _ hcell)]; exact hcell
      have hsrc1 := hsrc.below hnx (Nat.le_refl _)
      have hfl : (108 :: (ls.take (k + 1)).flatten) = (108 :: (ls.take k).flatten) ++ ls[k] := by
        rw [List.take_succ_eq_append_getElem hlt, List.flatten_append]; simp
      have hsum : ((ls.take k).flatten ++ ls[k]).length ≤ ls.flatten.length := by
        have e : ls.flatten = (ls.take (k + 1)).flatten ++ (ls.drop (k + 1)).flatten := by rw [← List.flatten_append, List.take_append_drop]
        rw [e, List.take_succ_eq_append_getElem hlt, List.flatten_append]; simp
      have HF := Lib.hid hfl
      rw [List.length_append] at hsum
      clear hfl hsrc hcell hc
      generalize hg : ls[k] = g at *
      have HG := Lib.hid hg
      clear hg
      generalize ht : (ls.take k).flatten = tk at *
      have HT := Lib.hid ht
      clear ht
      obtain ⟨xa, xn, xc, rfl⟩ : ∃ a n c, v1 = .slice a n c := by rcases hsrc1 with ⟨rfl, _⟩ | ⟨q, c, rfl, _⟩ <;> exact ⟨_, _, _, rfl⟩
      go_wp2_with (at_builtin; refine wpList_append_m rfl _ _ rfl w.heap.size _ _ (108 :: tk) g rfl rfl hown hsrc1 hs1 (by simp only [List.length_cons]; omega) ?_; refine Hid.out ?_)
      refine Lib.hid ?_
      intro v2 w2 hown2 hgrow
      have hnx2 : Below w.heap.size w w2 := hnx.grown hgrow hs1 (fun j hj => hown.lt j hj)
      obtain ⟨a4, n4, c4, hv4⟩ := hown2.form
      rw [hv4] at hown2 ⊢
      go_wp2
      go_roundw
      case rel => exact ⟨k + 1, a4, n4, c4, by omega, by go_num, rfl, by rw [HF.out]; exact hown2, hnx2⟩
      case measure => simp [intOf]; omega
    · obtain rfl : k = ls.length := by omega
      rw [List.take_length] at hown
      generalize ht : ls.flatten = tk at *
      have HT := Lib.hid ht
      clear ht
      have hone : SrcAt (wr.alloc (.cells #[.int .u8 101] 5)) (.slice (some ⟨wr.heap.size, 0, none⟩) 1 1) [101] := (own_one wr w.heap.size hs1 101).src
      have hown1 : OwnM (wr.alloc (.cells #[.int .u8 101] 5)) w.heap.size (.slice a3 n3 c3) (108 :: tk) := by
        rcases hown with ho | ⟨g, e, hB, hlt', hc⟩
        · exact .inl (World.ownsRow.alloc ho _)
        · refine .inr ⟨g, e, hB, by simp; omega, fun i hi => ?_⟩
          rw [((Below.refl wr.heap.size wr).alloc (Nat.le_refl _) _).cell (p := ⟨g, i, none⟩) hlt']
          exact hc i hi
      go_wp2_with (at_builtin; refine wpList_append_m rfl _ _ rfl w.heap.size _ _ (108 :: tk) [101] rfl rfl hown1 hone (by simp; omega) (by simp only [List.length_cons, List.length_nil]; omega) ?_; refine Hid.out ?_)
      refine Lib.hid ?_
      intro v2 w2 hown2 hgrow
      have hnx2 : Below w.heap.size w w2 := (hnx.alloc hs1 _).grown hgrow (by simp; omega) (fun j hj => hown.lt j hj)
      obtain ⟨a4, n4, c4, hv4⟩ := hown2.form
      rw [hv4] at hown2 ⊢
      go_wp2
      go_ret
      exact ⟨a4, n4, c4, rfl, by rw [putList, HT.out]; exact hown2, hnx2⟩
theorem refList_any (q : Option Addr) (c : Nat) (ls : List (List UInt8)) (w : World) (h : PartsAt w q ls) (hn : ls.length ≤ 140737488355328) (hl : ls.flatten.length ≤ 140737488355000) :
    Calls Tryz.prog 73 #[.slice q ls.length c] w fun e w' => ∃ a k c, e = .returned (.slice a k c) ∧ SrcAt w' (.slice a k c) (putList ls) ∧ Below w.heap.size w w' :=
  (refList_own q c ls w h hn hl).mono fun _ _ ⟨a, k, c, e, ho, hb⟩ => ⟨a, k, c, e, ho.src, hb⟩

end Go.Proofs.YtmanjegdgjeeiaaGreatDoor
namespace Go.Proofs.YtmanjegdgjeeiaaGreatDoor
open Go.RowKit

theorem src_take {w : World} {a : Option Addr} {n c : Nat} {l : List UInt8} (h : SrcAt w (.slice a n c) l) (k : Nat) (hk : k ≤ l.length) : (convert 86 9 (.slice a k c)).run Tryz.prog w = .ok (.string ⟨(l.take k).toArray⟩) w := by
  rcases h with ⟨e, rfl⟩ | ⟨q, c', e, hc⟩
  · simp only [Value.slice.injEq] at e
    obtain ⟨rfl, rfl, rfl⟩ := e
    obtain rfl : k = 0 := by simpa using hk
    exact run_convert_bytes_zero w 86 5 Tryz.underlying86 Tryz.underlying5 none 0 9 Tryz.underlying9
  · simp only [Value.slice.injEq] at e
    obtain ⟨rfl, rfl, rfl⟩ := e
    have hl : (l.take k).length = k := by simp; omega
    have := run_convert_bytes_back (P := Tryz.prog) w 86 9 5 q c (l.take k) Tryz.underlying86 Tryz.underlying5 Tryz.underlying9 (fun j hj => by
      rw [List.length_take] at hj
      rw [List.getElem_take]
      exact hc j (by omega))
    rw [hl] at this
    exact this

theorem src_len {w : World} {a : Option Addr} {n c : Nat} {l : List UInt8} (h : SrcAt w (.slice a n c) l) : n = l.length := by
  rcases h with ⟨e, rfl⟩ | ⟨q, c', e, hc⟩
  · simp only [Value.slice.injEq] at e; exact e.2.1
  · simp only [Value.slice.injEq] at e; exact e.2.1

theorem src_string {w : World} {v : Value} {l : List UInt8} (h : SrcAt w v l) : (convert 86 9 v).run Tryz.prog w = .ok (.string ⟨l.toArray⟩) w := by
  rcases h with ⟨rfl, rfl⟩ | ⟨q, c, rfl, hc⟩
  · exact run_convert_bytes_zero w 86 5 Tryz.underlying86 Tryz.underlying5 none 0 9 Tryz.underlying9
  · exact run_convert_bytes_back (P := Tryz.prog) w 86 9 5 q c l Tryz.underlying86 Tryz.underlying5 Tryz.underlying9 hc

end Go.Proofs.YtmanjegdgjeeiaaGreatDoor
