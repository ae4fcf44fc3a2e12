/-
  What Merge of package member tells.
-/
import Derived.Test.YtnoconampcemoaaB4
import Derived.Deep.AppendLies
namespace Go.Proofs.Ytnoconampcemoaa
open Go Go.RowKit

theorem MemsAt.skip {w w' : World} {a : Option Addr} {l : List Mem} {b : Nat} (h : MemsAt w a l) (g : w.grownBy w' (some b)) (hne : ∀ q, a = some q → q.block ≠ b) : MemsAt w' a l := fun hn => by
  obtain ⟨c, o, rfl, hlt, hc⟩ := h hn
  have := hne _ rfl
  exact ⟨c, o, rfl, Nat.lt_of_lt_of_le hlt g.size, fun i hi j v hv => (g.cell (hc i hi j v hv) (by simpa using this))⟩
theorem infoM : ∃ i, Try.prog.info? 43 = some i ∧ i.zero = some (.agg #[.int .u16 0, .int .u8 0, .int .i64 0]) ∧ i.size = 3 ∧ i.bytes = 16 := by
  have h := infoMx
  cases hq : Try.prog.info? 43 with
  | none => rw [hq] at h; cases h
  | some i => rw [hq] at h; exact ⟨i, rfl, by simpa using h⟩
theorem newE2 (w : World) (o o' : Obj) : ((w.alloc o).alloc o').heap[w.heap.size + 1]? = some o' := by
  have h := newE (w.alloc o) o'
  rwa [World.size_alloc] at h
/-- What Merge holds behind k members. -/
structure MgSt (w wr : World) (b : Nat) (T : Tb) (a : Option Addr) (l : List Mem) (k : Nat) (v : Value) : Prop where
  own : OwnMx wr w.heap.size v (mergeM T (l.take k))
  tab : TabBlk wr b (mergeB T (l.take k))
  mems : MemsAt wr a l
  grown : w.grownBy wr (some b)
def MergePost (b : Nat) (T : Tb) (l : List Mem) (w : World) (e : Ending) (w' : World) : Prop :=
  ∃ a n c, e = .returned (.slice a n c) ∧ OwnMx w' w.heap.size (.slice a n c) (mergeM T l) ∧ TabBlk w' b (mergeB T l) ∧ w.grownBy w' (some b)

set_option maxRecDepth 20000 in
set_option maxHeartbeats 8000000 in
theorem bMerge_any (b : Nat) (T : Tb) (a : Option Addr) (c n : Nat) (l : List Mem) (h0 : ∀ m ∈ l, 0 ≤ m.n) (hn : n = l.length) (hl : l.length ≤ 100000) (w : World) (hT : TabBlk w b T) (hM : MemsAt w a l) (hne : 0 < l.length → ∀ q, a = some q → q.block ≠ b) :
    Calls Try.prog 52 #[.pointer (some ⟨b, 0, none⟩), .slice a n c] w (MergePost b T l w) := by
  have HN := Lib.hid hn
  have HL := Lib.hid hl
  have H0 := Lib.hid h0
  have HNE0 : Hid (0 < l.length → ∀ q, a = some q → q.block ≠ b ∧ q.block < w.heap.size) := Lib.hid (fun h q e => ⟨hne h q e, by
    obtain ⟨x, o, e2, hlt, -⟩ := hM h
    rw [e] at e2
    obtain rfl := Option.some.inj e2
    exact hlt⟩)
  have hbw := hT.lt
  have hn1 : n ≤ 100000 := by omega
  have HS : Hid (MgSt w w b T a l 0 (.slice none 0 0)) := Lib.hid ⟨OwnMx.nil _ _, hT, hM, grownBy_refl _ _⟩
  clear hn hl h0 hT hM hne
  go_enter Try.func52, Try.ntmps52
  go_wp2
  go_loopw [5, 12] (fun v x wr => ∃ (k : Nat) (a5 : Option Addr) (n5 c5 : Nat), k ≤ n ∧ x = .int .i64 (k : Int) ∧ v = .slice a5 n5 c5 ∧ Hid (MgSt w wr b T a l k (.slice a5 n5 c5))) (fun _ x _ => n - (intOf x).toNat)
  case atStart => exact ⟨0, none, 0, 0, Nat.zero_le _, rfl, rfl, HS⟩
  case round =>
    clear HS
    obtain ⟨k, a5, n5, c5, hk, rfl, rfl, HS⟩ := hrel
    by_cases hlt : k < n
    · have hkl : (k : Int) < (n : Int) := by omega
      have hkx : k < l.length := by have := HN.out; omega
      have HNE := Lib.hid (fun q e => (HNE0.out (by omega) q e).1)
      have HLow := Lib.hid (fun q e => (HNE0.out (by omega) q e).2)
      obtain ⟨ba, oa, rfl, hba, d0, d1, d2⟩ := HS.out.mems.cells k hkx
      have HT1 : Hid (mergeB T (l.take (k + 1)) = hearB (mergeB T (l.take k)) l[k] ∧ mergeM T (l.take (k + 1)) = mergeM T (l.take k) ++ tellM (mergeB T (l.take k)) l[k]) := Lib.hid (by
        rw [List.take_succ_eq_append_getElem hkx, mergeB_snoc, mergeM_snoc]; exact ⟨rfl, rfl⟩)
      have HM0 := Lib.hid (H0.out l[k] (List.getElem_mem hkx))
      generalize l[k] = m at *
      obtain ⟨mn, ms, mi⟩ := m
      dsimp only at d0 d1 d2 HM0
      have HQ := Lib.hid ((Below.refl wr.heap.size wr).alloc (Nat.le_refl _) (.cells #[.int .u16 mn, .int .u8 ms, .int .i64 mi] 43))
      have HX := Lib.hid (fun u (hu : Below wr.heap.size wr u) => bHear_any b (mergeB T (l.take k)) ⟨mn, ms, mi⟩ HM0.out u (HS.out.tab.on hu))
      have HX1 := Lib.hid (HX.out _ HQ.out)
      clear HX hkx
      unfold HearPost heardM at HX1
      cases hnw : newsB (mergeB T (l.take k)) ⟨mn, ms, mi⟩ with
      | true =>
        rw [hnw] at HX1
        simp only [if_true] at HX1
        have HTe : Hid (tellM (mergeB T (l.take k)) ⟨mn, ms, mi⟩ = [saidM (mergeB T (l.take k)) ⟨mn, ms, mi⟩]) := Lib.hid (by unfold tellM; rw [hnw]; rfl)
        generalize saidM (mergeB T (l.take k)) ⟨mn, ms, mi⟩ = d at *
        obtain ⟨dn, ds, di⟩ := d
        dsimp only at HX1
        clear hnw
        go_wp2_with (go_at_call 20; refine HX1.out.mono ?_; rintro e w5 ⟨rfl, t5, g5⟩; replace t5 := Lib.hid t5; replace g5 := Lib.hid g5; refine Hid.out ?_)
        refine Lib.hid ?_
        have hown : OwnMx w5 w.heap.size (.slice a5 n5 c5) (mergeM T (l.take k)) := (HS.out.own.on HQ.out).turn g5.out hbw
        have HGr : Hid (w.grownBy w5 (some b)) := Lib.hid (grownBy_trans HS.out.grown (below_grown HQ.out g5.out))
        have HMe : Hid (MemsAt w5 (some ⟨ba, oa, none⟩) l) := Lib.hid ((HS.out.mems.on HQ.out).skip g5.out HNE.out)
        obtain ⟨i0, hi, hi0, hi1, hi2⟩ := infoM
        have hlen : (mergeM T (l.take k)).length ≤ 100000 := by
          have h1 := mergeM_len T (l.take k)
          have h2 := List.length_take_le k l
          have := HL.out
          have h3 : (l.take k).length ≤ l.length := by rw [List.length_take]; omega
          omega
        have hsz := HGr.out.size
        clear HS g5 HQ HX1
        generalize mergeM T (l.take k) = acc at *
        have hown3 : w5.ownsRow w.heap.size 43 3 (.slice a5 n5 c5) acc.length (cellsMx acc) := hown
        clear hown
        go_wp2_with (at_builtin; refine wpList_append_own _ rfl _ _ 33 rfl w.heap.size 43 i0 _ 3 16 Try.underlying33 hi hi0 hi1 hi2 rfl (by decide) _ _ _ rfl (World.ownsRow.alloc (World.ownsRow.alloc hown3 _) _) ⟨w5.heap.size + 1, 0, none⟩ 1 1 [.int .u16 dn, .int .u8 ds, .int .i64 di] rfl rfl (World.news_of_block (cs := #[.int .u16 dn, .int .u8 ds, .int .i64 di]) (newE2 _ _ _)) (by intro u' hu'; simp at hu'; rcases hu' with rfl | rfl | rfl <;> rfl) (by unfold maxLen; omega) (by omega) (by simp; omega) ?_; refine Hid.out ?_)
        refine Lib.hid ?_
        intro v7 w7 hown7 hg7 _
        have hA7 : OwnMx w7 w.heap.size v7 (acc ++ [⟨dn, ds, di⟩]) := OwnMx.push hown7
        obtain ⟨a7, c7, rfl, -, -, -⟩ := hA7.form
        have hbz : ∀ j, (Value.slice a5 n5 c5).ownBlock = some j → w.heap.size ≤ j := fun j hj => (World.ownsRow.lt hown3 j hj).1
        have hb2 := ((Below.refl w5.heap.size w5).alloc (Nat.le_refl _) (.cells #[.int .u16 dn, .int .u8 ds, .int .i64 di] 43)).alloc (by simp) (.cells #[.int .u16 dn, .int .u8 ds, .int .i64 di] 43)
        have s7 : Below w.heap.size w5 w7 := (hb2.mono hsz).grown hg7 (by simp; omega) (fun j hj => hbz j hj)
        have hM7 : MemsAt w7 (some ⟨ba, oa, none⟩) l := fun hn0 => by
          obtain ⟨c0, o0, e0, hlt0, hc0⟩ := HMe.out hn0
          cases e0
          refine ⟨ba, oa, rfl, Nat.lt_of_lt_of_le hlt0 s7.size, fun i hi j v hv => ?_⟩
          by_cases hlow : ba < w.heap.size
          · exact (s7.cell (p := ⟨ba, _, none⟩) hlow).trans (hc0 i hi j v hv)
          · exact absurd (HLow.out _ rfl) hlow
        have HST : Hid (MgSt w w7 b T (some ⟨ba, oa, none⟩) l (k + 1) (.slice a7 (acc ++ [(⟨dn, ds, di⟩ : Mem)]).length c7)) := Lib.hid ⟨by rw [HT1.out.2, HTe.out]; exact hA7, by rw [HT1.out.1]; exact t5.out.below s7 hbw, hM7, grown_then HGr.out s7⟩
        clear hA7 hM7 s7 hb2 hbz hown7 hg7 hown3 HGr HMe t5 hi hi0 hi1 hi2 hsz hlen HT1 HTe d0 d1 d2
        generalize (acc ++ [(⟨dn, ds, di⟩ : Mem)]).length = n7 at *
        go_wp2
        go_roundw
        case rel => exact ⟨k + 1, _, _, _, by omega, by go_num, rfl, HST⟩
        case measure => simp [intOf]; omega
      | false =>
        rw [hnw] at HX1
        simp only [Bool.false_eq_true, if_false] at HX1
        have HTe : Hid (tellM (mergeB T (l.take k)) ⟨mn, ms, mi⟩ = []) := Lib.hid (by unfold tellM; rw [hnw]; rfl)
        clear hnw
        go_wp2_with (go_at_call 20; refine HX1.out.mono ?_; rintro e w5 ⟨rfl, t5, g5⟩; replace t5 := Lib.hid t5; replace g5 := Lib.hid g5; refine Hid.out ?_)
        refine Lib.hid ?_
        have hown : OwnMx w5 w.heap.size (.slice a5 n5 c5) (mergeM T (l.take k)) := (HS.out.own.on HQ.out).turn g5.out hbw
        have hGr : w.grownBy w5 (some b) := grownBy_trans HS.out.grown (below_grown HQ.out g5.out)
        have hb2 := (Below.refl w5.heap.size w5).alloc (Nat.le_refl _) (.cells #[.int .u16 0, .int .u8 0, .int .i64 0] 43)
        have HST : Hid (MgSt w (w5.alloc (.cells #[.int .u16 0, .int .u8 0, .int .i64 0] 43)) b T (some ⟨ba, oa, none⟩) l (k + 1) (.slice a5 n5 c5)) := Lib.hid ⟨by rw [HT1.out.2, HTe.out, List.append_nil]; exact hown.on hb2, by rw [HT1.out.1]; exact t5.out.on hb2, ((HS.out.mems.on HQ.out).skip g5.out HNE.out).on hb2, grown_then hGr (hb2.mono hGr.size)⟩
        clear hown hGr hb2 HS g5 t5 HQ HX1 HT1 HTe d0 d1 d2
        go_wp2
        go_roundw
        case rel => exact ⟨k + 1, _, _, _, by omega, by go_num, rfl, HST⟩
        case measure => simp [intOf]; omega
    · have hkl : ¬ (k : Int) < (n : Int) := by omega
      have HF : Hid (MergePost b T l w (.returned (.slice a5 n5 c5)) wr) := Lib.hid (by
        have e : l.take k = l := List.take_of_length_le (by have := HN.out; omega)
        refine ⟨a5, n5, c5, rfl, ?_, ?_, HS.out.grown⟩
        · have := HS.out.own; rwa [e] at this
        · have := HS.out.tab; rwa [e] at this)
      clear HS
      go_wp2
      go_ret
      exact HF.out

set_option maxRecDepth 20000 in
set_option maxHeartbeats 8000000 in
theorem bMerge_nil (a : Option Addr) (c n : Nat) (l : List Mem) (hn : n = l.length) (hl : l.length ≤ 100000) (w : World) (hM : MemsAt w a l) :
    Calls Try.prog 52 #[.pointer none, .slice a n c] w fun e w' => e = .returned (.slice none 0 0) ∧ Below w.heap.size w w' := by
  have HN := Lib.hid hn
  have HM := Lib.hid hM
  have hn1 : n ≤ 100000 := by omega
  clear hn hl hM
  go_enter Try.func52, Try.ntmps52
  go_wp2
  go_loopw [5, 12] (fun v x wr => ∃ (k : Nat), k ≤ n ∧ x = .int .i64 (k : Int) ∧ v = .slice none 0 0 ∧ Hid (Below w.heap.size w wr)) (fun _ x _ => n - (intOf x).toNat)
  case atStart => exact ⟨0, Nat.zero_le _, rfl, rfl, Lib.hid (Below.refl _ _)⟩
  case round =>
    obtain ⟨k, hk, rfl, rfl, HS⟩ := hrel
    by_cases hlt : k < n
    · have hkl : (k : Int) < (n : Int) := by omega
      have hkx : k < l.length := by have := HN.out; omega
      obtain ⟨ba, oa, rfl, hba, d0, d1, d2⟩ := (HM.out.on HS.out).cells k hkx
      generalize l[k] = m at *
      obtain ⟨mn, ms, mi⟩ := m
      dsimp only at d0 d1 d2
      have HQ := Lib.hid ((Below.refl wr.heap.size wr).alloc (Nat.le_refl _) (.cells #[.int .u16 mn, .int .u8 ms, .int .i64 mi] 43))
      have HX := Lib.hid (fun u => bHear_nil ⟨mn, ms, mi⟩ u)
      dsimp only at HX
      clear hkx
      go_wp2_with (go_at_call 20; refine (HX.out _).mono ?_; rintro e w5 ⟨rfl, q5⟩; replace q5 := Lib.hid q5; refine Hid.out ?_)
      refine Lib.hid ?_
      have hs := HS.out.trans ((HQ.out.trans (q5.out.mono HQ.out.size)).mono HS.out.size)
      have HST := Lib.hid (hs.alloc hs.size (.cells #[.int .u16 0, .int .u8 0, .int .i64 0] 43))
      clear hs HS HQ q5 d0 d1 d2
      go_wp2
      go_roundw
      case rel => exact ⟨k + 1, by omega, by go_num, rfl, HST⟩
      case measure => simp [intOf]; omega
    · have hkl : ¬ (k : Int) < (n : Int) := by omega
      go_wp2
      go_ret
      exact ⟨rfl, HS.out⟩

end Go.Proofs.Ytnoconampcemoaa
