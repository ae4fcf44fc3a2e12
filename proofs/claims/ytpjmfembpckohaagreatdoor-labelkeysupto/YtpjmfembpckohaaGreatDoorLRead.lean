/-
  What Read does: the pairs that may be and have this key, or ErrForm.
-/
import Derived.Test.YtpjmfembpckohaaGreatDoorLRPlain
import Derived.Test.YtpjmfembpckohaaGreatDoorLPick
namespace Go.Proofs.YtpjmfembpckohaaGreatDoor
open Go.RowKit

theorem bytes_of_string (w : World) (s : ByteArray) : ∃ a c w', (convert 9 34 (.string s)).run Tryz.prog w = .ok (.slice (some a) s.size c) w' ∧ SrcAt w' (.slice (some a) s.size c) s.data.toList ∧ Below w.heap.size w w' := by
  refine ⟨⟨w.heap.size, 0, none⟩, _, _, Lib.run_convert_string_bytes w 9 34 5 s Tryz.underlying9 Tryz.underlying34 Tryz.underlying5, .inr ⟨_, _, rfl, fun i hi => ?_⟩, Lib.bytesWorld_below _ _ _⟩
  rw [Go.WideShapes.add_plain, Nat.zero_add, Lib.bytesWorld_cell w 5 s i (by show i < s.data.size; simpa using hi)]
  rw [List.getD_eq_getElem?_getD, List.getElem?_eq_getElem hi]
  rfl

theorem own_above {w : World} {B rb : Nat} {v : Value} {ps : List Pr} (h : OwnP w B v ps) (hr : rb < B) : v.ownBlock = none ∨ v.ownBlock ≠ some rb := by
  refine .inr fun e => ?_
  have := (World.ownsRow.lt h rb e).1
  omega

theorem OwnP.le {w : World} {B B' : Nat} {v : Value} {ps : List Pr} (h : OwnP w B v ps) (hB : B' ≤ B) : OwnP w B' v ps :=
  ⟨h.1, h.2.imp id fun ⟨g, cap, cur, h1, h2, h3⟩ => ⟨g, cap, cur, h1, Nat.le_trans hB h2, h3⟩⟩

/-- Read's answer: the pairs, or none. -/
def ReadAns (w w' : World) (key : List UInt8) (e : Ending) : Prop :=
  (∃ a c, ∃ ps : List Pr, e = .returned (.tuple #[.slice a ps.length c, .int .i64 0]) ∧ OwnP w' w.heap.size (.slice a ps.length c) ps ∧ checkE ps = 0 ∧ key = keyL ps) ∨
  (e = .returned (.tuple #[.slice none 0 0, .int .i64 4]) ∧ ∀ qs, checkE qs = 0 → key ≠ keyL qs)

set_option maxHeartbeats 4000000 in
set_option maxRecDepth 100000 in
theorem Read_any (s : ByteArray) (w : World) (hs : s.size ≤ 1099511627776) (hv : VarsOk w.heap.size w) :
    Calls Tryz.prog 4 #[.string s] w fun e w' => ReadAns w w' s.data.toList e ∧ Below w.heap.size w w' := by
  obtain ⟨i0, hi, hi0, hi1, hi2⟩ := info_parts infoPair
  obtain ⟨a1, c1, w1, hcv, hsrc, hb1⟩ := bytes_of_string w s
  have hs1 := hb1.size
  have hkl : s.data.toList.length = s.size := rfl
  have HKL := Lib.hid hkl
  have HN := Lib.hid (New_any _ s.data.toList w1 hsrc (by omega))
  clear hkl hsrc
  generalize s.data.toList = key at *
  go_enter Tryz.func4, Tryz.ntmps4
  go_wp2_with (go_at_call 11; refine HN.out.mono ?_; rintro e w2 ⟨rb, a2, c2, rfl, hrd2, hrb, -, hb2⟩; refine Hid.out ?_)
  refine Lib.hid ?_
  have hs2 := hb2.size
  have hn2 := hb1.trans (hb2.mono hs1)
  have hrl := hrd2.blk.lt
  go_wp2_with (go_at_call 12; refine (Open_any rb a2 c2 key _ hrd2).mono ?_; rintro e w3 ⟨rfl, ⟨a3, c3, hrd3⟩, hg3⟩; refine Hid.out ?_)
  refine Lib.hid ?_
  have hs3 := hg3.size
  have hn3 : Below w.heap.size w w3 := hn2.trans (below_of_grownBy hg3 (by omega) (by omega))
  have hinv := inv_open key
  generalize (rdByte 108 key).1 = l3 at *
  generalize (rdByte 108 key).2 = e3 at *
  have HI3 := Lib.hid hinv
  clear hinv hrd2 hg3 hb2 HN hcv hb1
  go_wp2
  go_loopw [5] (fun v wr => ∃ (a5 : Option Addr) (c5 : Nat) (ps : List Pr) (l : List UInt8) (e : Int) (ar : Option Addr) (cr : Nat), v = .slice a5 ps.length c5 ∧ OwnP wr w3.heap.size (.slice a5 ps.length c5) ps ∧ Rd wr rb ar cr l e ∧ Inv key l e ps ∧ Below w.heap.size w wr ∧ w3.heap.size ≤ wr.heap.size) (fun _ wr => leftN rb wr)
  case atStart => exact ⟨none, 0, [], l3, e3, a3, c3, rfl, World.ownsRow_nil _ _ _ _, hrd3, HI3.out, hn3, Nat.le_refl _⟩
  case round =>
    obtain ⟨a5, c5, ps, l, e, ar, cr, rfl, hown, hrd, hinv, hnx, hsz⟩ := hrel
    have hvr := hv.on hnx
    by_cases hm : moreB l = true
    · have he0 : e = 0 := by
        by_cases he : e = 0
        · exact he
        · rw [hrd.err he] at hm; cases hm
      subst he0
      obtain ⟨l1, e1, s1, hT1⟩ : ∃ l1 e1 s1, rdText 16 l = (l1, e1, s1) := ⟨_, _, _, rfl⟩
      have HL := Lib.hid hrd.leftN
      have HMo := Lib.hid (More_any rb ar cr l 0 wr hrd)
      rw [hm] at HMo
      have HT1 := Lib.hid (rText_eq rb ar cr l 16 w.heap.size wr hrd (by omega) hvr hT1)
      by_cases he1 : e1 = 0
      · obtain ⟨l2, e2, s2, hT2⟩ : ∃ l2 e2 s2, rdText 64 l1 = (l2, e2, s2) := ⟨_, _, _, rfl⟩
        have HI := Lib.hid (inv_round hinv hm hT1 he1 hT2)
        have HT2 := Lib.hid hT2
        subst he1
        have hlt : l2.length < l.length := Nat.lt_of_le_of_lt (rdText_le hT2) (rdText_less hT1 (moreB_pos hm))
        have hpl := hinv.many
        rw [if_pos rfl, HKL.out] at hpl
        clear hm hT1 hT2 hinv
        go_wp2_with (go_at_call 13; refine HMo.out.mono ?_; rintro e w4 ⟨rfl, rfl⟩; refine Hid.out ?_)
        refine Lib.hid ?_
        go_wp2_with (go_at_call 14; refine HT1.out.mono ?_; rintro e w5 ⟨rfl, ⟨ar5, cr5, hrd5⟩, hg5⟩; refine Hid.out ?_)
        refine Lib.hid ?_
        have hb5 : Below w.heap.size w4 w5 := below_of_grownBy hg5 (by omega) (by omega)
        have hn5 := hnx.trans hb5
        have ho5 : OwnP w5 w3.heap.size (.slice a5 ps.length c5) ps := World.ownsRow.kept hown hg5 (own_above hown (by omega))
        have hs5 := hg5.size
        have HR2 := Lib.hid (rText_eq rb ar5 cr5 l1 64 w.heap.size w5 hrd5 (by omega) (hv.on hn5) HT2.out)
        clear hrd5 hg5 hb5
        go_wp2_with (go_at_call 14; refine HR2.out.mono ?_; rintro e w6 ⟨rfl, ⟨ar6, cr6, hrd6⟩, hg6⟩; refine Hid.out ?_)
        refine Lib.hid ?_
        have hb6 : Below w.heap.size w5 w6 := below_of_grownBy hg6 (by omega) (by omega)
        have hn6 := hn5.trans hb6
        have ho6 : OwnP w6 w3.heap.size (.slice a5 ps.length c5) ps := World.ownsRow.kept ho5 hg6 (own_above ho5 (by omega))
        have hs6 := hg6.size
        have hrd7 := hrd6.below ((Below.refl w6.heap.size w6).alloc (Nat.le_refl _) (.cells #[.string ⟨s1.toArray⟩, .string ⟨s2.toArray⟩] 37))
        clear hg6 hb6 hrd6 hrd ho5 hown hnx
        go_wp2_with (at_builtin; refine wpList_append_own _ rfl _ _ 22 rfl w3.heap.size 37 i0 _ 2 32 Tryz.underlying22 hi hi0 hi1 hi2 rfl (by decide) _ _ _ rfl (World.ownsRow.alloc ho6 _) ⟨_, 0, none⟩ 1 1 [.string ⟨s1.toArray⟩, .string ⟨s2.toArray⟩] rfl rfl (World.news_of_block (cs := #[.string ⟨s1.toArray⟩, .string ⟨s2.toArray⟩]) (heap_alloc_new _ _)) (by intro u' hu'; simp at hu'; rcases hu' with rfl | rfl <;> rfl) (by unfold maxLen; omega) (by omega) (by simp; omega) ?_; refine Hid.out ?_)
        refine Lib.hid ?_
        intro v8 w8 hown8 hg8 _
        have ho8 : OwnP w8 w3.heap.size v8 (ps ++ [(⟨s1.toArray⟩, ⟨s2.toArray⟩)]) := OwnP.push hown8
        obtain ⟨a8, c8, rfl, -, -, -⟩ := ho8.form
        have hrd8 := hrd7.above hg8 (fun k hk => by have := (World.ownsRow.lt ho6 k hk).1; omega)
        have hn8 : Below w.heap.size w w8 := (hn6.alloc (by omega) _).grown hg8 (by simp; omega) (fun k hk => by have := (World.ownsRow.lt ho6 k hk).1; omega)
        have hs8 := hg8.size
        simp only [World.size_alloc] at hs8
        clear hown8 hg8 hrd7 ho6
        go_wp2
        go_roundw
        case rel => exact ⟨a8, c8, _, l2, e2, ar6, cr6, rfl, ho8, hrd8, HI.out, hn8, by omega⟩
        case measure => rw [hrd8.leftN, HL.out]; exact hlt
      · have HI := Lib.hid (inv_bad hinv hm hT1 he1)
        have hlt : l1.length < l.length := rdText_less hT1 (moreB_pos hm)
        have hpl := hinv.many
        rw [if_pos rfl, HKL.out] at hpl
        have he1' : (e1 != 0) = true := by simpa using he1
        clear hm hT1 hinv
        go_wp2_with (go_at_call 13; refine HMo.out.mono ?_; rintro e w4 ⟨rfl, rfl⟩; refine Hid.out ?_)
        refine Lib.hid ?_
        go_wp2_with (go_at_call 14; refine HT1.out.mono ?_; rintro e w5 ⟨rfl, ⟨ar5, cr5, hrd5⟩, hg5⟩; refine Hid.out ?_)
        refine Lib.hid ?_
        have hb5 : Below w.heap.size w4 w5 := below_of_grownBy hg5 (by omega) (by omega)
        have hn6 := hnx.trans hb5
        have ho6 : OwnP w5 w3.heap.size (.slice a5 ps.length c5) ps := World.ownsRow.kept hown hg5 (own_above hown (by omega))
        have hs5 := hg5.size
        have HR2 := Lib.hid (rText_err rb ar5 cr5 l1 e1 64 w5 hrd5 he1')
        have hrd7 := hrd5.below ((Below.refl w5.heap.size w5).alloc (Nat.le_refl _) (.cells #[.string ⟨s1.toArray⟩, .string ⟨#[]⟩] 37))
        clear hg5 hb5 hrd5 hrd hown hnx
        go_wp2_with (go_at_call 14; refine HR2.out.mono ?_; rintro e w6 ⟨rfl, rfl⟩; refine Hid.out ?_)
        refine Lib.hid ?_
        go_wp2_with (at_builtin; refine wpList_append_own _ rfl _ _ 22 rfl w3.heap.size 37 i0 _ 2 32 Tryz.underlying22 hi hi0 hi1 hi2 rfl (by decide) _ _ _ rfl (World.ownsRow.alloc ho6 _) ⟨_, 0, none⟩ 1 1 [.string ⟨s1.toArray⟩, .string ⟨#[]⟩] rfl rfl (World.news_of_block (cs := #[.string ⟨s1.toArray⟩, .string ⟨#[]⟩]) (heap_alloc_new _ _)) (by intro u' hu'; simp at hu'; rcases hu' with rfl | rfl <;> rfl) (by unfold maxLen; omega) (by omega) (by simp; omega) ?_; refine Hid.out ?_)
        refine Lib.hid ?_
        intro v8 w8 hown8 hg8 _
        have ho8 : OwnP w8 w3.heap.size v8 (ps ++ [(⟨s1.toArray⟩, ⟨#[]⟩)]) := OwnP.push hown8
        obtain ⟨a8, c8, rfl, -, -, -⟩ := ho8.form
        have hrd8 := hrd7.above hg8 (fun k hk => by have := (World.ownsRow.lt ho6 k hk).1; omega)
        have hn8 : Below w.heap.size w w8 := (hn6.alloc (by omega) _).grown hg8 (by simp; omega) (fun k hk => by have := (World.ownsRow.lt ho6 k hk).1; omega)
        have hs8 := hg8.size
        simp only [World.size_alloc] at hs8
        clear hown8 hg8 hrd7 ho6
        go_wp2
        go_roundw
        case rel => exact ⟨a8, c8, _, l1, e1, ar5, cr5, rfl, ho8, hrd8, HI.out, hn8, by omega⟩
        case measure => rw [hrd8.leftN, HL.out]; exact hlt
    · have hm' : moreB l = false := by simpa using hm
      have HMo := Lib.hid (More_any rb ar cr l e wr hrd)
      rw [hm'] at HMo
      by_cases he0 : e = 0
      · subst he0
        cases l with
        | nil =>
          have HNo := Lib.hid (inv_cut hinv)
          have HC := Lib.hid (Close_any rb ar cr [] wr hrd)
          have ec : rdByte 101 [] = ([], 3) := rfl
          rw [ec] at HC
          clear hm hm' hinv ec hrd
          go_wp2_with (go_at_call 13; refine HMo.out.mono ?_; rintro e w4 ⟨rfl, rfl⟩; refine Hid.out ?_)
          refine Lib.hid ?_
          go_wp2_with (go_at_call 15; refine HC.out.mono ?_; rintro e w5 ⟨rfl, ⟨ar5, cr5, hrd5⟩, hg5⟩; refine Hid.out ?_)
          refine Lib.hid ?_
          have hn5 := hnx.trans (below_of_grownBy hg5 (B := w.heap.size) (by omega) (by omega))
          clear hg5 hown
          go_wp2_with (go_at_call 16; refine (Err_any rb ar5 cr5 [] 3 _ hrd5).mono ?_; rintro e w6 ⟨rfl, rfl⟩)
          go_ret2
          exact ⟨.inr ⟨rfl, HNo.out⟩, hn5⟩
        | cons x l =>
          have hx : x = 101 := by
            have : ¬ (x.toNat : Int) ≠ 101 := by
              intro h
              simp [moreB] at hm'
              omega
            have h2 : x.toNat = (101 : UInt8).toNat := by
              show x.toNat = 101
              omega
            exact UInt8.toNat_inj.1 h2
          subst hx
          have HC := Lib.hid (Close_any rb ar cr (101 :: l) wr hrd)
          have ec : rdByte 101 (101 :: l) = (l, 0) := by simp [rdByte]
          rw [ec] at HC
          have HI := Lib.hid hinv
          clear hm hm' hinv ec hrd
          go_wp2_with (go_at_call 13; refine HMo.out.mono ?_; rintro e w4 ⟨rfl, rfl⟩; refine Hid.out ?_)
          refine Lib.hid ?_
          go_wp2_with (go_at_call 15; refine HC.out.mono ?_; rintro e w5 ⟨rfl, ⟨ar5, cr5, hrd5⟩, hg5⟩; refine Hid.out ?_)
          refine Lib.hid ?_
          have hn5 := hnx.trans (below_of_grownBy hg5 (B := w.heap.size) (by omega) (by omega))
          have hs5 := hn5.size
          have ho5 : OwnP w5 w3.heap.size (.slice a5 ps.length c5) ps := World.ownsRow.kept hown hg5 (own_above hown (by omega))
          clear hg5 hown
          by_cases hl0 : l = []
          · subst hl0
            obtain ⟨_, _, hq5, hat5, -, -⟩ := ho5.form
            injection hq5 with q1 q2 q3
            subst q1 q3
            have HCk := Lib.hid (Check_any a5 c5 ps w5 hat5)
            by_cases hck : checkE ps = 0
            · rw [hck] at HCk
              go_wp2_with (first
                | (go_at_call 16; refine (Err_any rb ar5 cr5 [] 0 _ hrd5).mono ?_; rintro e w6 ⟨rfl, rfl⟩)
                | (go_at_call 17; refine (Left_any rb ar5 cr5 [] 0 _ hrd5).mono ?_; rintro e w6 ⟨rfl, rfl⟩)
                | (go_at_call 18; refine HCk.out.mono ?_; rintro e w7 ⟨rfl, hb7⟩; refine Hid.out ?_))
              refine Lib.hid ?_
              have ho7 : OwnP w7 w3.heap.size (.slice a5 ps.length c5) ps := World.ownsRow.kept ho5 (grownBy_of_below (r := none) hb7) (by cases hv : (Value.slice a5 ps.length c5).ownBlock <;> simp)
              have ho8 : OwnP w7 w.heap.size (.slice a5 ps.length c5) ps := ho7.le (by omega)
              clear ho5 ho7 hat5
              go_wp2
              go_ret2
              exact ⟨.inl ⟨a5, c5, ps, rfl, ho8, hck, inv_yes HI.out rfl⟩, hn5.trans (hb7.mono hs5)⟩
            · have hck' : (checkE ps != 0) = true := by simpa using hck
              have HNo : Hid (∀ qs, checkE qs = 0 → key ≠ keyL qs) := Lib.hid fun qs hq hk => hck (by rw [← (inv_last HI.out qs hq hk).1]; exact hq)
              generalize checkE ps = E at *
              clear hck
              go_wp2_with (first
                | (go_at_call 16; refine (Err_any rb ar5 cr5 [] 0 _ hrd5).mono ?_; rintro e w6 ⟨rfl, rfl⟩)
                | (go_at_call 17; refine (Left_any rb ar5 cr5 [] 0 _ hrd5).mono ?_; rintro e w6 ⟨rfl, rfl⟩)
                | (go_at_call 18; refine HCk.out.mono ?_; rintro e w7 ⟨rfl, hb7⟩; refine Hid.out ?_))
              refine Lib.hid ?_
              clear ho5 hat5
              go_wp2
              go_ret2
              exact ⟨.inr ⟨rfl, HNo.out⟩, hn5.trans (hb7.mono hs5)⟩
          · have HNo : Hid (∀ qs, checkE qs = 0 → key ≠ keyL qs) := Lib.hid fun qs hq hk => hl0 (inv_last HI.out qs hq hk).2
            have hl1 : (0 : Int) < (l.length : Int) := by
              have := List.length_pos_iff.2 hl0
              omega
            clear ho5
            go_wp2_with (first
              | (go_at_call 16; refine (Err_any rb ar5 cr5 l 0 _ hrd5).mono ?_; rintro e w6 ⟨rfl, rfl⟩)
              | (go_at_call 17; refine (Left_any rb ar5 cr5 l 0 _ hrd5).mono ?_; rintro e w6 ⟨rfl, rfl⟩))
            go_ret2
            exact ⟨.inr ⟨rfl, HNo.out⟩, hn5⟩
      · have HNo := Lib.hid (inv_err hinv he0)
        have he' : (e != 0) = true := by simpa using he0
        have HC := Lib.hid (Close_err rb ar cr l e wr hrd he')
        have HE := Lib.hid (Err_any rb ar cr l e wr hrd)
        clear hm hm' hinv hrd he0
        go_wp2_with (first
          | (go_at_call 13; refine HMo.out.mono ?_; rintro e w4 ⟨rfl, rfl⟩)
          | (go_at_call 15; refine HC.out.mono ?_; rintro e w5 ⟨rfl, rfl⟩)
          | (go_at_call 16; refine HE.out.mono ?_; rintro e w6 ⟨rfl, rfl⟩))
        go_ret2
        exact ⟨.inr ⟨rfl, HNo.out⟩, hnx⟩

end Go.Proofs.YtpjmfembpckohaaGreatDoor
