/-
  What Revision of package group does: the bytes of a list of the keys of alerts, by rising keys, and of whether each fires.
-/
import Derived.Test.YtdnpfmmkglgnjaaDoorG3
namespace Go.Proofs.YtdnpfmmkglgnjaaDoor
open Go.RowKit

def firesP (s e now : Int) : Bool := decide (s ≤ now) && decide (now < e)
set_option maxHeartbeats 400000 in
theorem aFires_any (a : Option Addr) (n c : Nat) (s e now : Int) (w : World) : Calls Tryd.prog 15 #[.agg #[.slice a n c, .int .i64 s, .int .i64 e], .int .i64 now] w fun r w' => r = .returned (.bool (firesP s e now)) ∧ Below w.heap.size w w' := by
  have d1 := (Below.refl w.heap.size w).alloc (Nat.le_refl _) (.cells #[.slice a n c, .int .i64 s, .int .i64 e] 34)
  unfold firesP
  by_cases h1 : s ≤ now
  · go_enter Tryd.func15, Tryd.ntmps15
    go_wp2
    go_ret
    exact ⟨by simp [h1], d1⟩
  · go_enter Tryd.func15, Tryd.ntmps15
    go_wp2
    go_ret
    exact ⟨by simp; omega, d1⟩

/-- Whether it fires, as a number. -/
def fireN (r : Rw) (now : Int) : Int := if firesP r.st r.en now then 1 else 0
def partsR (M : List Rw) (now : Int) : List (List UInt8) := M.flatMap fun r => [putText r.key, putInt (fireN r now)]
/-- What alerts say. -/
def revL (L : List Rw) (now : Int) : List UInt8 := if L.length = 0 then [] else putList (partsR (sortR L) now)
theorem partsR_len (now : Int) : ∀ M : List Rw, (partsR M now).length = M.length * 2
  | [] => rfl
  | p :: r => by
    have := partsR_len now r
    simp only [partsR, List.flatMap_cons, List.length_append, List.length_cons] at *
    rw [this]
    simp
    omega
theorem partsR_take (M : List Rw) (now : Int) (k : Nat) (hk : k < M.length) : partsR (M.take (k + 1)) now = partsR (M.take k) now ++ [putText M[k].key, putInt (fireN M[k] now)] := by
  rw [List.take_succ_eq_append_getElem hk]
  unfold partsR
  rw [List.flatMap_append]
  simp
theorem putInt_le (n : Int) (h0 : -9223372036854775808 ≤ n) (h1 : n ≤ 9223372036854775807) : (putInt n).length ≤ 22 := by
  have := itoa_len20 n h0 h1
  simp [putInt]
  omega
theorem fireN_01 (r : Rw) (now : Int) : fireN r now = 0 ∨ fireN r now = 1 := by
  unfold fireN
  split <;> simp
theorem flatR_le (now : Int) : ∀ M : List Rw, (∀ r ∈ M, RwLight r) → (partsR M now).flatten.length ≤ M.length * 2500
  | [], _ => by simp [partsR]
  | p :: r, h => by
    have ih := flatR_le now r fun q hq => h q (List.mem_cons_of_mem _ hq)
    have hp := (h p (List.mem_cons_self ..)).key_le
    have e : partsR (p :: r) now = [putText p.key, putInt (fireN p now)] ++ partsR r now := rfl
    have h1 := itoa_len20 p.key.length (by omega) (by omega)
    have h2 := putInt_le (fireN p now) (by rcases fireN_01 p now with h | h <;> omega) (by rcases fireN_01 p now with h | h <;> omega)
    have h3 : (putText p.key).length = (Lib.itoa p.key.length).length + 1 + p.key.length := by simp [putText]; omega
    rw [e, List.flatten_append, List.length_append]
    simp only [List.flatten_cons, List.flatten_nil, List.append_nil, List.length_append, List.length_cons]
    omega

theorem sortR_len (L : List Rw) : (sortR L).length = L.length := (sortR_perm L).length_eq
theorem keyB (r : Rw) : (⟨r.key.toArray⟩ : ByteArray).data.toList = r.key := rfl
theorem keyZ (r : Rw) : (⟨r.key.toArray⟩ : ByteArray).size = r.key.length := by
  show r.key.toArray.size = _
  simp

/-- A block of a keyed alert. -/
def KdBlk (w : World) (x : Nat) (r : Rw) : Prop := w.heap[x]? = some (.cells #[.slice r.ad r.ps.length r.cp, .int .i64 r.st, .int .i64 r.en, .string ⟨r.key.toArray⟩] 63 (0, 0))
theorem KdBlk.below {w w' : World} {x N : Nat} {r : Rw} (h : KdBlk w x r) (hb : Below N w w') (hN : x < N) : KdBlk w' x r := (hb.block x hN).trans h
theorem KdBlk.cell {w : World} {x : Nat} {r : Rw} (h : KdBlk w x r) : w.cell? ⟨x, 0, none⟩ = some (.slice r.ad r.ps.length r.cp) ∧ w.cell? ⟨x, 1, none⟩ = some (.int .i64 r.st) ∧ w.cell? ⟨x, 2, none⟩ = some (.int .i64 r.en) ∧ w.cell? ⟨x, 3, none⟩ = some (.string ⟨r.key.toArray⟩) := by
  unfold KdBlk at h
  simp [World.cell?, h]
theorem KdBlk.new (w : World) (r : Rw) : KdBlk (w.alloc (.cells #[.slice r.ad r.ps.length r.cp, .int .i64 r.st, .int .i64 r.en, .string ⟨r.key.toArray⟩] 63)) w.heap.size r := heap_alloc_new w _

set_option maxHeartbeats 4000000 in
set_option maxRecDepth 100000 in
theorem gRevision_any (a : Option Addr) (c : Nat) (L : List Rw) (now : Int) (B : Nat) (w : World) (h : AlsAt w a L) (hl : L.length ≤ 40) (hL : ∀ r ∈ L, RwLight r) (hB : B ≤ w.heap.size) (hvv : VarsOk B w) (n : Nat) (hn : n = L.length) :
    Calls Tryd.prog 13 #[.slice a n c, .int .i64 now] w fun e w' => e = .returned (.string ⟨(revL L now).toArray⟩) ∧ Below w.heap.size w w' := by
  by_cases h0 : n = 0
  · have e0 : revL L now = [] := by unfold revL; rw [if_pos (by omega)]
    have HE := Lib.hid e0
    subst h0
    clear e0 hn
    go_enter Tryd.func13, Tryd.ntmps13
    go_wp2
    go_ret
    exact ⟨by rw [HE.out]; rfl, Below.refl _ _⟩
  · obtain ⟨i0, hi, hi0, hi1, hi2⟩ := info_parts infoBytes
    have HBK := Lib.hid (gByKey_any a c L B w h hl hL hB hvv.tabOk n hn)
    have HRV : Hid (revL L now = putList (partsR (sortR L) now)) := Lib.hid (by unfold revL; rw [if_neg (by omega)])
    have HLM : Hid (∀ r ∈ sortR L, RwLight r) := Lib.hid fun r hr => hL r ((sortR_perm L).mem_iff.1 hr)
    have hM := sortR_len L
    have hMn : (sortR L).length ≤ n ∧ n ≤ (sortR L).length := by omega
    have hn40 : n ≤ 40 := by omega
    have HNM : Hid (n = (sortR L).length) := Lib.hid (by omega)
    have hnz : ((n : Int) == 0) = false := by rw [beq_eq_false_iff_ne]; omega
    generalize sortR L = M at *
    clear h hl hL hn hM h0
    go_enter Tryd.func13, Tryd.ntmps13
    go_wp2_with (go_at_call 36; refine HBK.out.mono ?_; rintro e w1 ⟨a1, c1, rfl, hk1, hb1⟩; refine Hid.out ?_)
    refine Lib.hid ?_
    have hs1 := hb1.size
    have HK1 := Lib.hid hk1
    clear HBK hk1
    go_wp2
    go_loopw [5, 15] (fun v i wr => ∃ (k : Nat) (a7 : Option Addr) (n7 c7 : Nat) (vs : List Value), k ≤ n ∧ i = .int .i64 k ∧ v = .slice a7 n7 c7 ∧ RowOf wr w1.heap.size (.slice a7 n7 c7) vs (partsR (M.take k) now) ∧ Below w1.heap.size w1 wr) (fun _ i _ => n - (intOf i).toNat)
    case atStart => exact ⟨0, none, 0, 0, [], Nat.zero_le _, rfl, rfl, RowOf.nil _ _, Below.refl _ _⟩
    case round =>
      obtain ⟨k, a7, n7, c7, vs, hk, rfl, rfl, hrow, hnx⟩ := hrel
      have hsr := hnx.size
      have hvr := (hvv.on (hb1.mono hB)).on (hnx.mono (by omega))
      by_cases hlt : k < n
      · have hkl : (k : Int) < (n : Int) := by omega
        have hkM : k < M.length := by omega
        obtain ⟨g, rfl, -, hgl, hc⟩ := HK1.out (by omega)
        obtain ⟨hc1, hc2, hc3, hc4⟩ := hc k hkM
        rw [← hnx.cell (p := ⟨g, k * 4, none⟩) hgl] at hc1
        rw [← hnx.cell (p := ⟨g, k * 4 + 1, none⟩) hgl] at hc2
        rw [← hnx.cell (p := ⟨g, k * 4 + 2, none⟩) hgl] at hc3
        rw [← hnx.cell (p := ⟨g, k * 4 + 3, none⟩) hgl] at hc4
        have hli := HLM.out M[k] (List.getElem_mem _)
        have hlen := hrow.len
        rw [partsR_len, List.length_take] at hlen
        have hlb : vs.length ≤ 80 := by omega
        clear hlen hc
        have HM := Lib.hid (partsR_take M now k hkM)
        have h01 := fireN_01 M[k] now
        have HFN : Hid (fireN M[k] now = if firesP M[k].st M[k].en now then 1 else 0) := Lib.hid rfl
        generalize M[k] = r0 at *
        have hkz := keyZ r0
        have hke := hli.key_le
        have kb := KdBlk.new wr r0
        have dwb := (Below.refl wr.heap.size wr).alloc (Nat.le_refl _) (.cells #[.slice r0.ad r0.ps.length r0.cp, .int .i64 r0.st, .int .i64 r0.en, .string ⟨r0.key.toArray⟩] 63)
        have hsb : (wr.alloc (.cells #[.slice r0.ad r0.ps.length r0.cp, .int .i64 r0.st, .int .i64 r0.en, .string ⟨r0.key.toArray⟩] 63)).heap.size = wr.heap.size + 1 := by simp
        have HF := Lib.hid (aFires_any r0.ad r0.ps.length r0.cp r0.st r0.en now (wr.alloc (.cells #[.slice r0.ad r0.ps.length r0.cp, .int .i64 r0.st, .int .i64 r0.en, .string ⟨r0.key.toArray⟩] 63)))
        have HKB := Lib.hid (And.intro kb (And.intro dwb hsb))
        clear kb dwb hsb
        cases hf : firesP r0.st r0.en now with
        | true =>
          have hfz : fireN r0 now = 1 := by rw [HFN.out, hf]; rfl
          rw [hfz] at HM
          rw [hf] at HF
          clear h01 hfz HFN hf
          go_wp2_with (go_at_call 15; refine HF.out.mono ?_; rintro e w2 ⟨rfl, hb2⟩; refine Hid.out ?_)
          refine Lib.hid ?_
          obtain ⟨kb, dwb, hsb⟩ := HKB.out
          have k2 := kb.below hb2 (by omega)
          obtain ⟨-, -, -, c4⟩ := k2.cell
          have e2 : Below wr.heap.size wr w2 := dwb.trans (hb2.mono (by omega))
          have hs2 := e2.size
          have hv2 := hvr.on (e2.mono (by omega))
          have HT := Lib.hid (Text_val ⟨r0.key.toArray⟩ (by omega) B w2 (by omega) hv2)
          rw [keyB] at HT
          clear kb dwb hsb HKB hc1 hc2 hc3 hc4 hb2 k2 HF
          go_wp2_with (go_at_call 18; refine HT.out.mono ?_; rintro e w3 ⟨a3, k3, c3, rfl, ho3, hb3⟩; refine Hid.out ?_)
          refine Lib.hid ?_
          have hs3 := hb3.size
          have HI := Lib.hid (Int_val 1 (by omega) (by omega) B w3 (by omega) (hv2.on (hb3.mono (by omega))))
          clear HT c4
          go_wp2_with (go_at_call 17; refine HI.out.mono ?_; rintro e w4 ⟨a4, k4, c4, rfl, ho4, hb4⟩; refine Hid.out ?_)
          refine Lib.hid ?_
          have hs4 := hb4.size
          have e4 : Below wr.heap.size wr w4 := (e2.trans (hb3.mono hs2)).trans (hb4.mono (by omega))
          have hrow4 := hrow.below e4
          go_wp2_with (at_builtin; refine wpList_append_lies _ (by rfl) _ _ 39 (by rfl) w1.heap.size 37 i0 (.slice none 0 0) 1 24 Tryd.underlying39 hi hi0 hi1 hi2 rfl (by decide) (.slice a7 n7 c7) vs.length vs (by rfl) (hrow4.own.alloc _) ⟨w4.heap.size, 0, none⟩ 2 2 [.slice a3 k3 c3, .slice a4 k4 c4] (by rfl) rfl (World.news_of_block (cs := #[.slice a3 k3 c3, .slice a4 k4 c4]) (heap_alloc_new _ _)) (by intro u' hu'; simp at hu'; rcases hu' with rfl | rfl <;> rfl) (by decide) (by unfold maxLen; omega) (by omega) (by simp; omega) (w4.heap.size + 1) (by simp) ?_; refine Hid.out ?_)
          refine Lib.hid ?_
          intro g5 cap w5 hown5 hgrow5 hat5 hlt5
          have hrow5 : RowOf w5 w1.heap.size (.slice (some ⟨g5, 0, none⟩) (vs.length + 2) cap) (vs ++ [.slice a3 k3 c3, .slice a4 k4 c4]) (partsR (M.take (k + 1)) now) := by
            rw [HM.out]
            refine hrow.steps e4 rfl (fun j hj => ?_) ?_ hown5 hgrow5 (hat5.imp (fun e => e.symm) (fun e => by rw [e]; rfl))
            · match j, hj with
              | 0, _ => exact (ho3.src).below hb4 (Nat.le_refl _)
              | 1, _ => exact ho4.src
            · intro y hy q n' c' e
              simp only [List.mem_cons, List.not_mem_nil, or_false] at hy
              rcases hy with rfl | rfl
              · have := own_block_lt ho3 q n' c' e
                omega
              · have := own_block_lt ho4 q n' c' e
                omega
          have hnx5 : Below w1.heap.size w1 w5 := ((hnx.trans (e4.mono hsr)).alloc (by omega) _).grown hgrow5 (by simp; omega) (fun j hj => (hrow.own.lt j hj).1)
          clear hown5 hgrow5 hat5
          go_wp2
          go_roundw
          case rel => exact ⟨k + 1, _, _, _, _, by omega, by go_num, rfl, hrow5, hnx5⟩
          case measure => simp [intOf]; omega
        | false =>
          have hfz : fireN r0 now = 0 := by rw [HFN.out, hf]; rfl
          rw [hfz] at HM
          rw [hf] at HF
          clear h01 hfz HFN hf
          go_wp2_with (go_at_call 15; refine HF.out.mono ?_; rintro e w2 ⟨rfl, hb2⟩; refine Hid.out ?_)
          refine Lib.hid ?_
          obtain ⟨kb, dwb, hsb⟩ := HKB.out
          have k2 := kb.below hb2 (by omega)
          obtain ⟨-, -, -, c4⟩ := k2.cell
          have e2 : Below wr.heap.size wr w2 := dwb.trans (hb2.mono (by omega))
          have hs2 := e2.size
          have hv2 := hvr.on (e2.mono (by omega))
          have HT := Lib.hid (Text_val ⟨r0.key.toArray⟩ (by omega) B w2 (by omega) hv2)
          rw [keyB] at HT
          clear kb dwb hsb HKB hc1 hc2 hc3 hc4 hb2 k2 HF
          go_wp2_with (go_at_call 18; refine HT.out.mono ?_; rintro e w3 ⟨a3, k3, c3, rfl, ho3, hb3⟩; refine Hid.out ?_)
          refine Lib.hid ?_
          have hs3 := hb3.size
          have HI := Lib.hid (Int_val 0 (by omega) (by omega) B w3 (by omega) (hv2.on (hb3.mono (by omega))))
          clear HT c4
          go_wp2_with (go_at_call 17; refine HI.out.mono ?_; rintro e w4 ⟨a4, k4, c4, rfl, ho4, hb4⟩; refine Hid.out ?_)
          refine Lib.hid ?_
          have hs4 := hb4.size
          have e4 : Below wr.heap.size wr w4 := (e2.trans (hb3.mono hs2)).trans (hb4.mono (by omega))
          have hrow4 := hrow.below e4
          go_wp2_with (at_builtin; refine wpList_append_lies _ (by rfl) _ _ 39 (by rfl) w1.heap.size 37 i0 (.slice none 0 0) 1 24 Tryd.underlying39 hi hi0 hi1 hi2 rfl (by decide) (.slice a7 n7 c7) vs.length vs (by rfl) (hrow4.own.alloc _) ⟨w4.heap.size, 0, none⟩ 2 2 [.slice a3 k3 c3, .slice a4 k4 c4] (by rfl) rfl (World.news_of_block (cs := #[.slice a3 k3 c3, .slice a4 k4 c4]) (heap_alloc_new _ _)) (by intro u' hu'; simp at hu'; rcases hu' with rfl | rfl <;> rfl) (by decide) (by unfold maxLen; omega) (by omega) (by simp; omega) (w4.heap.size + 1) (by simp) ?_; refine Hid.out ?_)
          refine Lib.hid ?_
          intro g5 cap w5 hown5 hgrow5 hat5 hlt5
          have hrow5 : RowOf w5 w1.heap.size (.slice (some ⟨g5, 0, none⟩) (vs.length + 2) cap) (vs ++ [.slice a3 k3 c3, .slice a4 k4 c4]) (partsR (M.take (k + 1)) now) := by
            rw [HM.out]
            refine hrow.steps e4 rfl (fun j hj => ?_) ?_ hown5 hgrow5 (hat5.imp (fun e => e.symm) (fun e => by rw [e]; rfl))
            · match j, hj with
              | 0, _ => exact (ho3.src).below hb4 (Nat.le_refl _)
              | 1, _ => exact ho4.src
            · intro y hy q n' c' e
              simp only [List.mem_cons, List.not_mem_nil, or_false] at hy
              rcases hy with rfl | rfl
              · have := own_block_lt ho3 q n' c' e
                omega
              · have := own_block_lt ho4 q n' c' e
                omega
          have hnx5 : Below w1.heap.size w1 w5 := ((hnx.trans (e4.mono hsr)).alloc (by omega) _).grown hgrow5 (by simp; omega) (fun j hj => (hrow.own.lt j hj).1)
          clear hown5 hgrow5 hat5
          go_wp2
          go_roundw
          case rel => exact ⟨k + 1, _, _, _, _, by omega, by go_num, rfl, hrow5, hnx5⟩
          case measure => simp [intOf]; omega
      · obtain rfl : k = n := by omega
        rw [List.take_of_length_le (by omega)] at hrow
        obtain ⟨hn7, hparts⟩ := hrow.parts
        have hfl := flatR_le now M HLM.out
        have HL := Lib.hid (List_val a7 c7 (partsR M now) wr hparts (by rw [partsR_len]; omega) (by omega) n7 hn7)
        clear hparts hn7 hfl
        go_wp2_with (go_at_call 19; refine HL.out.mono ?_; rintro e w4 ⟨a4, k4, c4, rfl, ho4, hb4⟩; refine Hid.out ?_)
        refine Lib.hid ?_
        have hcv := own_string ho4
        go_wp2
        go_ret
        exact ⟨by rw [HRV.out]; rfl, (hb1.trans (hnx.mono hs1)).trans (hb4.mono (by omega))⟩

end Go.Proofs.YtdnpfmmkglgnjaaDoor
