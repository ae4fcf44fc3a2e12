/-
  Read of the reference, walked: the pairs that may be and have this key, or ErrForm.
-/
import Derived.Test.YtpjmfembpckohaaGreatDoorLRefRead0
namespace Go.Proofs.YtpjmfembpckohaaGreatDoor
open Go.RowKit

set_option maxHeartbeats 2000000 in
set_option maxRecDepth 100000 in
theorem refRead_any (s : ByteArray) (w : World) (hs : s.size ≤ 1099511627776) :
    Calls Tryz.prog 5 #[.string s] w fun e w' => RefAns w' s.data.toList e ∧ Below w.heap.size w w' := by
  obtain ⟨i0, hi, hi0, hi1, hi2⟩ := info_parts infoPair
  obtain ⟨a1, c1, w1, hcv, hsrc, hc1, ha1, hb1⟩ := bytes_of_string2 w s
  have hs1 := hb1.size
  have hkl : s.data.toList.length = s.size := rfl
  have HKL := Lib.hid hkl
  have HST := Lib.hid (fun l (h : s.data.toList = l) => str_same s l h)
  have HST2 := Lib.hid (fun l (h : ¬ s.data.toList = l) => str_not s l h)
  have HB0 := refByte_any (some a1) c1 s.data.toList 108 w1 hsrc hc1
  rw [hkl] at HB0
  have HB := Lib.hid HB0
  clear HB0
  clear hsrc hkl
  have hinv := inv_open s.data.toList
  generalize s.data.toList = key at *
  go_enter Tryz.func5, Tryz.ntmps5
  go_wp2_with (go_at_call 19; refine HB.out.mono ?_; rintro e w2 ⟨⟨a2, c2, rfl, hsrc2, hcap2, hlow2⟩, hb2⟩; refine Hid.out ?_)
  refine Lib.hid ?_
  have hs2 := hb2.size
  have hn2 := hb1.trans (hb2.mono hs1)
  have herr2 : (rdByte 108 key).2 ≠ 0 → (rdByte 108 key).1 = [] := rdByte_err 108 key
  generalize (rdByte 108 key).1 = l2 at *
  generalize (rdByte 108 key).2 = e2 at *
  have hlow3 : ∀ q, a2 = some q → q.block < w2.heap.size := fun q hq => by
    obtain ⟨q0, hq0, hqb⟩ := hlow2 q hq
    obtain rfl := Option.some.inj hq0
    omega
  have hn3 : Below w.heap.size w (w2.alloc (.cells #[.slice a2 l2.length c2, .int .i64 e2] 42)) := hn2.alloc (by omega) _
  have hrs3 : RS (w2.alloc (.cells #[.slice a2 l2.length c2, .int .i64 e2] 42)) w2.heap.size (w2.heap.size + 1) (.slice none 0 0) [] a2 c2 l2 e2 :=
    ⟨Two.new _ _ _ _, hsrc2.below ((Below.refl _ _).alloc (Nat.le_refl _) _) (Nat.le_refl _), hcap2, hlow3, herr2, World.ownsRow_nil _ _ _ _⟩
  have HI := Lib.hid hinv
  have HRS := Lib.hid hrs3
  clear hinv hsrc2 hb2 HB hcv hb1 hlow2 hlow3 hrs3
  go_wp2
  go_loopw [5] (fun v wr => ∃ (a5 : Option Addr) (c5 : Nat) (ps : List Pr) (l : List UInt8) (e : Int) (ar : Option Addr) (cr : Nat), v = .slice a5 ps.length c5 ∧ RS wr w2.heap.size (w2.heap.size + 1) (.slice a5 ps.length c5) ps ar cr l e ∧ Inv key l e ps ∧ ps.length ≤ 9 ∧ ShortP ps ∧ Below w.heap.size w wr) (fun v _ => 9 - lenV v)
  case atStart => exact ⟨none, 0, [], l2, e2, a2, c2, rfl, HRS.out, HI.out, by simp, (fun p hp => by cases hp), hn3⟩
  case round =>
    obtain ⟨a5, c5, ps, l, e, ar, cr, rfl, hrs, hinv, hp9, hsh, hnx⟩ := hrel
    have hsr := hnx.size
    have hrl := hrs.blk.lt
    have hlb : l.length ≤ 140737488355328 := by
      have := inv_left hinv hrs.err
      rw [HKL.out] at this
      omega
    have hc0 := hrs.blk.c0
    have hc1' := hrs.blk.c1
    have HMo := Lib.hid (refMore_any ar cr l e wr hrs.src hrs.err)
    have HSH := Lib.hid hsh
    clear hsh
    by_cases hm : moreB l = true
    · have he0 : e = 0 := by
        by_cases he : e = 0
        · exact he
        · rw [hrs.err he] at hm; cases hm
      subst he0
      rw [hm] at HMo
      by_cases h8 : ps.length ≤ 8
      · have h8' : (ps.length : Int) ≤ 8 := by omega
        obtain ⟨l1, e1, s1, hT1⟩ : ∃ l1 e1 s1, rdText 16 l = (l1, e1, s1) := ⟨_, _, _, rfl⟩
        have hs1l := rdText_text hT1
        have hl1l := rdText_le hT1
        have hsz1 : (⟨s1.toArray⟩ : ByteArray).size ≤ 9223372036854775807 := by rw [size_str]; omega
        go_wp2_with (go_at_call 20; refine HMo.out.mono ?_; rintro r w3 ⟨rfl, hb3⟩; refine Hid.out ?_)
        refine Lib.hid ?_
        have hs3 := hb3.size
        have hrs3 := (hrs.below hb3).below ((Below.refl w3.heap.size w3).alloc (Nat.le_refl _) (.cells #[.string ⟨#[]⟩, .string ⟨#[]⟩] 37))
        have hpr3 := Two.new w3 37 (.string ⟨#[]⟩) (.string ⟨#[]⟩)
        have hn3' : Below w.heap.size w (w3.alloc (.cells #[.string ⟨#[]⟩, .string ⟨#[]⟩] 37)) := (hnx.trans (hb3.mono hsr)).alloc (by omega) _
        have hd0 := hrs3.blk.c0
        have hd1 := hrs3.blk.c1
        have hvp : ∀ k, (Value.slice a5 ps.length c5).ownBlock = some k → k < w3.heap.size := fun k hk => by have := (World.ownsRow.lt hrs.own k hk).2; omega
        have HT1 := Lib.hid (refrText_any ar cr l 16 _ hrs3.src hrs3.cap hlb)
        rw [hT1] at HT1
        have hz3 : w3.heap.size < (w3.alloc (.cells #[.string ⟨#[]⟩, .string ⟨#[]⟩] 37)).heap.size := by simp
        clear hc0 hc1'
        go_wp2_with fail
        generalize w3.alloc (.cells #[.string ⟨#[]⟩, .string ⟨#[]⟩] 37) = W3 at *
        go_wp2_with (go_at_call 21; refine HT1.out.mono ?_; rintro r w4 ⟨⟨a4, c4, rfl, hsrc4, hcap4, hlow4⟩, hb4⟩; refine Hid.out ?_)
        refine Lib.hid ?_
        have hs4 := hb4.size
        have hrs4 := hrs3.below hb4
        have hpr4 := hpr3.below hb4 hz3
        have hlow4' : ∀ q, a4 = some q → q.block < w2.heap.size := fun q hq => by
          obtain ⟨q0, hq0, hqb⟩ := hlow4 q hq
          have := hrs3.low q0 hq0
          omega
        have hn4 := hn3'.trans (hb4.mono hn3'.size)
        have herr4 : e1 ≠ 0 → l1 = [] := rdText_left hT1
        have hrs5 := hrs4.stored hsrc4 hcap4 hlow4' herr4 (by omega) (show w2.heap.size + 1 ≤ w3.heap.size by omega) hvp 0 (.string ⟨s1.toArray⟩)
        have hpr5 : Two (((w4.setCell ⟨w2.heap.size, 0, none⟩ (.slice a4 l1.length c4)).setCell ⟨w2.heap.size, 1, none⟩ (.int .i64 e1)).setCell ⟨w3.heap.size, 0, none⟩ (.string ⟨s1.toArray⟩)) w3.heap.size 37 (.string ⟨s1.toArray⟩) (.string ⟨#[]⟩) :=
          ((hpr4.far ⟨w2.heap.size, 0, none⟩ (show w3.heap.size ≠ w2.heap.size by omega) _).far ⟨w2.heap.size, 1, none⟩ (show w3.heap.size ≠ w2.heap.size by omega) _).set0 _
        have hn5 : Below w.heap.size w (((w4.setCell ⟨w2.heap.size, 0, none⟩ (.slice a4 l1.length c4)).setCell ⟨w2.heap.size, 1, none⟩ (.int .i64 e1)).setCell ⟨w3.heap.size, 0, none⟩ (.string ⟨s1.toArray⟩)) :=
          ((hn4.setCell (p := ⟨w2.heap.size, 0, none⟩) (show w.heap.size ≤ w2.heap.size by omega) _).setCell (p := ⟨w2.heap.size, 1, none⟩) (show w.heap.size ≤ w2.heap.size by omega) _).setCell (p := ⟨w3.heap.size, 0, none⟩) (show w.heap.size ≤ w3.heap.size by omega) _
        have hsz5 : w4.heap.size ≤ (((w4.setCell ⟨w2.heap.size, 0, none⟩ (.slice a4 l1.length c4)).setCell ⟨w2.heap.size, 1, none⟩ (.int .i64 e1)).setCell ⟨w3.heap.size, 0, none⟩ (.string ⟨s1.toArray⟩)).heap.size := by simp [World.setCell]
        have g0 := hrs4.blk.c0
        have g1 := hrs4.blk.c1
        have g2 := hrs4.blk.fr
        have g3 := hpr4.c0
        have g4 := hpr4.fr
        have g5 := hrs5.blk.c0
        have g6 := hrs5.blk.c1
        have hne : ¬ w2.heap.size = w3.heap.size := by omega
        have hne' : ¬ w3.heap.size = w2.heap.size := by omega
        have hltp : w3.heap.size < w4.heap.size := by omega
        clear hd0 hd1
        by_cases he1 : e1 = 0
        · obtain ⟨l6, e6, s6, hT2⟩ : ∃ l6 e6 s6, rdText 64 l1 = (l6, e6, s6) := ⟨_, _, _, rfl⟩
          have HNX := Lib.hid (inv_round hinv hm hT1 he1 hT2)
          subst he1
          have HT2 := Lib.hid (refrText_any a4 c4 l1 64 _ hrs5.src hcap4 (by omega))
          rw [hT2] at HT2
          have herr6 : e6 ≠ 0 → l6 = [] := rdText_left hT2
          clear hT1 hT2 hinv hrs4 hpr4 hrs3 hpr3 hrs hb3 hb4 hsrc4 herr4
          go_wp2_with fail
          generalize ((w4.setCell ⟨w2.heap.size, 0, none⟩ (.slice a4 l1.length c4)).setCell ⟨w2.heap.size, 1, none⟩ (.int .i64 0)).setCell ⟨w3.heap.size, 0, none⟩ (.string ⟨s1.toArray⟩) = W5 at *
          clear g0 g1 g2 g3 g4
          go_wp2_with (go_at_call 21; refine HT2.out.mono ?_; rintro r w6 ⟨⟨a6, c6, rfl, hsrc6, hcap6, hlow6⟩, hb6⟩; refine Hid.out ?_)
          refine Lib.hid ?_
          have hlow6' : ∀ q, a6 = some q → q.block < w2.heap.size := fun q hq => by
            obtain ⟨q0, hq0, hqb⟩ := hlow6 q hq
            have := hlow4' q0 hq0
            omega
          have hs6 := hb6.size
          have hrs6 := hrs5.below hb6
          have hpr6 := hpr5.below hb6 (by omega)
          have hn6 := hn5.trans (hb6.mono hn5.size)
          have hrs7 := hrs6.stored hsrc6 hcap6 hlow6' herr6 (by omega) (show w2.heap.size + 1 ≤ w3.heap.size by omega) hvp 1 (.string ⟨s6.toArray⟩)
          have hpr7 : Two (((w6.setCell ⟨w2.heap.size, 0, none⟩ (.slice a6 l6.length c6)).setCell ⟨w2.heap.size, 1, none⟩ (.int .i64 e6)).setCell ⟨w3.heap.size, 1, none⟩ (.string ⟨s6.toArray⟩)) w3.heap.size 37 (.string ⟨s1.toArray⟩) (.string ⟨s6.toArray⟩) :=
            ((hpr6.far ⟨w2.heap.size, 0, none⟩ (show w3.heap.size ≠ w2.heap.size by omega) _).far ⟨w2.heap.size, 1, none⟩ (show w3.heap.size ≠ w2.heap.size by omega) _).set1 _
          have hn7 : Below w.heap.size w (((w6.setCell ⟨w2.heap.size, 0, none⟩ (.slice a6 l6.length c6)).setCell ⟨w2.heap.size, 1, none⟩ (.int .i64 e6)).setCell ⟨w3.heap.size, 1, none⟩ (.string ⟨s6.toArray⟩)) :=
            ((hn6.setCell (p := ⟨w2.heap.size, 0, none⟩) (show w.heap.size ≤ w2.heap.size by omega) _).setCell (p := ⟨w2.heap.size, 1, none⟩) (show w.heap.size ≤ w2.heap.size by omega) _).setCell (p := ⟨w3.heap.size, 1, none⟩) (show w.heap.size ≤ w3.heap.size by omega) _
          have k0 := hrs6.blk.c0
          have k1 := hrs6.blk.c1
          have k2 := hrs6.blk.fr
          have k3 := hpr6.c1
          have k4 := hpr6.fr
          have k5 := hpr7.c0
          have k6 := hpr7.c1
          have hlt6 : w3.heap.size < w6.heap.size := by omega
          clear g5 g6 hrs5 hpr5 hn5 hb6 hsrc6 hn6
          have hown7 := hrs7.own
          have HW7 : Hid ((((w6.setCell ⟨w2.heap.size, 0, none⟩ (.slice a6 l6.length c6)).setCell ⟨w2.heap.size, 1, none⟩ (.int .i64 e6)).setCell ⟨w3.heap.size, 1, none⟩ (.string ⟨s6.toArray⟩)).heap.size = w6.heap.size) := Lib.hid (by simp [World.setCell])
          have hsz7 := hn7.size
          have hlw7 : w2.heap.size + 1 ≤ (((w6.setCell ⟨w2.heap.size, 0, none⟩ (.slice a6 l6.length c6)).setCell ⟨w2.heap.size, 1, none⟩ (.int .i64 e6)).setCell ⟨w3.heap.size, 1, none⟩ (.string ⟨s6.toArray⟩)).heap.size := by simp [World.setCell]; omega
          go_wp2_with (at_builtin; refine Hid.out ?_)
          refine Lib.hid ?_
          generalize ((w6.setCell ⟨w2.heap.size, 0, none⟩ (.slice a6 l6.length c6)).setCell ⟨w2.heap.size, 1, none⟩ (.int .i64 e6)).setCell ⟨w3.heap.size, 1, none⟩ (.string ⟨s6.toArray⟩) = W7 at *
          refine wpList_append_own _ rfl _ _ 22 rfl (w2.heap.size + 1) 37 i0 _ 2 32 Tryz.underlying22 hi hi0 hi1 hi2 rfl (by decide) _ _ _ rfl (World.ownsRow.alloc hown7 _) ⟨_, 0, none⟩ 1 1 [.string ⟨s1.toArray⟩, .string ⟨s6.toArray⟩] rfl rfl (World.news_of_block (cs := #[.string ⟨s1.toArray⟩, .string ⟨s6.toArray⟩]) (by rw [← HW7.out]; exact heap_alloc_new _ _)) (by intro u' hu'; simp at hu'; rcases hu' with rfl | rfl <;> rfl) (by unfold maxLen; omega) (by omega) (by simp; omega) ?_
          intro v8 w8 hown8 hg8 _
          have hrs8 := hrs7.below ((Below.refl _ _).alloc (Nat.le_refl _) (.cells #[.string ⟨s1.toArray⟩, .string ⟨s6.toArray⟩] 37))
          have ho8 : OwnP w8 (w2.heap.size + 1) v8 (ps ++ [(⟨s1.toArray⟩, ⟨s6.toArray⟩)]) := OwnP.push hown8
          obtain ⟨a8, c8, rfl, -, -, -⟩ := ho8.form
          have hgb8 : ∀ k, (Value.slice a5 ps.length c5).ownBlock = some k → w2.heap.size + 1 ≤ k := fun k hk => (World.ownsRow.lt hown7 k hk).1
          have hn8 : Below w.heap.size w w8 := (hn7.alloc hsz7 _).grown hg8 (by simp; omega) (fun k hk => by have := hgb8 k hk; omega)
          have hrs9 : RS w8 w2.heap.size (w2.heap.size + 1) (.slice a8 (ps ++ [((⟨s1.toArray⟩ : ByteArray), (⟨s6.toArray⟩ : ByteArray))]).length c8) (ps ++ [(⟨s1.toArray⟩, ⟨s6.toArray⟩)]) a6 c6 l6 e6 :=
            ⟨hrs8.blk.grown hg8 (fun e => by have := hgb8 _ e.symm; omega), hrs8.src.grown hg8 (fun q n c e e2 => by
              simp only [Value.slice.injEq] at e
              have h1 := hlow6' q e.1
              have h2 := hgb8 _ e2.symm
              omega), hcap6, hlow6', herr6, ho8⟩
          have HSH2 := Lib.hid (HSH.out.push (s2 := ⟨s6.toArray⟩) hsz1)
          clear hown8 hg8 hrs8 hrs7 hpr7 hown7 k0 k1 k2 k3 k4 k5 k6 hn7
          go_wp2
          go_roundw
          case rel => exact ⟨a8, c8, _, l6, e6, a6, c6, by simp, hrs9, HNX.out, by simp; omega, HSH2.out, hn8⟩
          case measure => simp [lenV]; omega
        · have HNX := Lib.hid (inv_bad hinv hm hT1 he1)
          have he1' : (e1 != 0) = true := by simpa using he1
          have HT2 := Lib.hid (fun W => refrText_err a4 l1.length c4 e1 64 W he1')
          have hsrc5 := hrs5.src
          have hcap6 := hcap4
          have hlow6' := hlow4'
          have herr6 := herr4
          clear hT1 hinv hrs4 hpr4 hrs3 hpr3 hrs hb3 hb4 hsrc4 herr4 he1
          go_wp2_with fail
          generalize ((w4.setCell ⟨w2.heap.size, 0, none⟩ (.slice a4 l1.length c4)).setCell ⟨w2.heap.size, 1, none⟩ (.int .i64 e1)).setCell ⟨w3.heap.size, 0, none⟩ (.string ⟨s1.toArray⟩) = W5 at *
          clear g0 g1 g2 g3 g4
          go_wp2_with (go_at_call 21; refine (HT2.out _).mono ?_; rintro r w6 ⟨rfl, hb6⟩; refine Hid.out ?_)
          refine Lib.hid ?_
          have hsrc6 := hsrc5.below hb6 (Nat.le_refl _)
          have hs6 := hb6.size
          have hrs6 := hrs5.below hb6
          have hpr6 := hpr5.below hb6 (by omega)
          have hn6 := hn5.trans (hb6.mono hn5.size)
          have hrs7 := hrs6.stored hsrc6 hcap6 hlow6' herr6 (by omega) (show w2.heap.size + 1 ≤ w3.heap.size by omega) hvp 1 (.string ⟨#[]⟩)
          have hpr7 : Two (((w6.setCell ⟨w2.heap.size, 0, none⟩ (.slice a4 l1.length c4)).setCell ⟨w2.heap.size, 1, none⟩ (.int .i64 e1)).setCell ⟨w3.heap.size, 1, none⟩ (.string ⟨#[]⟩)) w3.heap.size 37 (.string ⟨s1.toArray⟩) (.string ⟨#[]⟩) :=
            ((hpr6.far ⟨w2.heap.size, 0, none⟩ (show w3.heap.size ≠ w2.heap.size by omega) _).far ⟨w2.heap.size, 1, none⟩ (show w3.heap.size ≠ w2.heap.size by omega) _).set1 _
          have hn7 : Below w.heap.size w (((w6.setCell ⟨w2.heap.size, 0, none⟩ (.slice a4 l1.length c4)).setCell ⟨w2.heap.size, 1, none⟩ (.int .i64 e1)).setCell ⟨w3.heap.size, 1, none⟩ (.string ⟨#[]⟩)) :=
            ((hn6.setCell (p := ⟨w2.heap.size, 0, none⟩) (show w.heap.size ≤ w2.heap.size by omega) _).setCell (p := ⟨w2.heap.size, 1, none⟩) (show w.heap.size ≤ w2.heap.size by omega) _).setCell (p := ⟨w3.heap.size, 1, none⟩) (show w.heap.size ≤ w3.heap.size by omega) _
          have k0 := hrs6.blk.c0
          have k1 := hrs6.blk.c1
          have k2 := hrs6.blk.fr
          have k3 := hpr6.c1
          have k4 := hpr6.fr
          have k5 := hpr7.c0
          have k6 := hpr7.c1
          have hlt6 : w3.heap.size < w6.heap.size := by omega
          clear g5 g6 hrs5 hpr5 hn5 hb6 hsrc6 hn6
          have hown7 := hrs7.own
          have HW7 : Hid ((((w6.setCell ⟨w2.heap.size, 0, none⟩ (.slice a4 l1.length c4)).setCell ⟨w2.heap.size, 1, none⟩ (.int .i64 e1)).setCell ⟨w3.heap.size, 1, none⟩ (.string ⟨#[]⟩)).heap.size = w6.heap.size) := Lib.hid (by simp [World.setCell])
          have hsz7 := hn7.size
          have hlw7 : w2.heap.size + 1 ≤ (((w6.setCell ⟨w2.heap.size, 0, none⟩ (.slice a4 l1.length c4)).setCell ⟨w2.heap.size, 1, none⟩ (.int .i64 e1)).setCell ⟨w3.heap.size, 1, none⟩ (.string ⟨#[]⟩)).heap.size := by simp [World.setCell]; omega
          go_wp2_with (at_builtin; refine Hid.out ?_)
          refine Lib.hid ?_
          generalize ((w6.setCell ⟨w2.heap.size, 0, none⟩ (.slice a4 l1.length c4)).setCell ⟨w2.heap.size, 1, none⟩ (.int .i64 e1)).setCell ⟨w3.heap.size, 1, none⟩ (.string ⟨#[]⟩) = W7 at *
          refine wpList_append_own _ rfl _ _ 22 rfl (w2.heap.size + 1) 37 i0 _ 2 32 Tryz.underlying22 hi hi0 hi1 hi2 rfl (by decide) _ _ _ rfl (World.ownsRow.alloc hown7 _) ⟨_, 0, none⟩ 1 1 [.string ⟨s1.toArray⟩, .string ⟨#[]⟩] rfl rfl (World.news_of_block (cs := #[.string ⟨s1.toArray⟩, .string ⟨#[]⟩]) (by rw [← HW7.out]; exact heap_alloc_new _ _)) (by intro u' hu'; simp at hu'; rcases hu' with rfl | rfl <;> rfl) (by unfold maxLen; omega) (by omega) (by simp; omega) ?_
          intro v8 w8 hown8 hg8 _
          have hrs8 := hrs7.below ((Below.refl _ _).alloc (Nat.le_refl _) (.cells #[.string ⟨s1.toArray⟩, .string ⟨#[]⟩] 37))
          have ho8 : OwnP w8 (w2.heap.size + 1) v8 (ps ++ [(⟨s1.toArray⟩, ⟨#[]⟩)]) := OwnP.push hown8
          obtain ⟨a8, c8, rfl, -, -, -⟩ := ho8.form
          have hgb8 : ∀ k, (Value.slice a5 ps.length c5).ownBlock = some k → w2.heap.size + 1 ≤ k := fun k hk => (World.ownsRow.lt hown7 k hk).1
          have hn8 : Below w.heap.size w w8 := (hn7.alloc hsz7 _).grown hg8 (by simp; omega) (fun k hk => by have := hgb8 k hk; omega)
          have hrs9 : RS w8 w2.heap.size (w2.heap.size + 1) (.slice a8 (ps ++ [((⟨s1.toArray⟩ : ByteArray), (⟨#[]⟩ : ByteArray))]).length c8) (ps ++ [(⟨s1.toArray⟩, ⟨#[]⟩)]) a4 c4 l1 e1 :=
            ⟨hrs8.blk.grown hg8 (fun e => by have := hgb8 _ e.symm; omega), hrs8.src.grown hg8 (fun q n c e e2 => by
              simp only [Value.slice.injEq] at e
              have h1 := hlow6' q e.1
              have h2 := hgb8 _ e2.symm
              omega), hcap6, hlow6', herr6, ho8⟩
          have HSH2 := Lib.hid (HSH.out.push (s2 := ⟨#[]⟩) hsz1)
          clear hown8 hg8 hrs8 hrs7 hpr7 hown7 k0 k1 k2 k3 k4 k5 k6 hn7
          go_wp2
          go_roundw
          case rel => exact ⟨a8, c8, _, l1, e1, a4, c4, by simp, hrs9, HNX.out, by simp; omega, HSH2.out, hn8⟩
          case measure => simp [lenV]; omega
      · have h8' : ¬ (ps.length : Int) ≤ 8 := by omega
        have hck : checkE ps ≠ 0 := fun h => h8 (check_len' h)
        have HNo : Hid (∀ qs, checkE qs = 0 → key ≠ keyL qs) := Lib.hid fun qs hq hk => hck (by rw [← inv_stop hinv (.inr (by omega)) qs hq hk]; exact hq)
        obtain ⟨_, _, hq5, hat5, -, -⟩ := hrs.own.form
        injection hq5 with q1 q2 q3
        subst q1 q3
        go_wp2_with (go_at_call 20; refine HMo.out.mono ?_; rintro r w3 ⟨rfl, hb3⟩; refine Hid.out ?_)
        refine Lib.hid ?_
        have hs3 := hb3.size
        have hn3' := hnx.trans (hb3.mono hsr)
        have hd1 := (hrs.below hb3).blk.c1
        have HCk := Lib.hid (refCheck_any a5 c5 ps w3 (hat5.below hb3 (Nat.le_refl _)) HSH.out)
        have hck' : (checkE ps != 0) = true := by simpa using hck
        generalize checkE ps = E at *
        clear hrs hat5 hc0 hc1' hinv hck
        go_wp2_with (go_at_call 22; refine HCk.out.mono ?_; rintro r w4 ⟨rfl, hb4⟩; refine Hid.out ?_)
        refine Lib.hid ?_
        go_wp2
        go_ret2
        exact ⟨.inr ⟨rfl, HNo.out⟩, hn3'.trans (hb4.mono (by omega))⟩
    · have hm' : moreB l = false := by simpa using hm
      rw [hm'] at HMo
      obtain ⟨_, _, hq5, hat5, -, -⟩ := hrs.own.form
      injection hq5 with q1 q2 q3
      subst q1 q3
      by_cases he0 : e = 0
      · subst he0
        by_cases hck : checkE ps = 0
        · have HCk := Lib.hid (fun w3 (hb3 : Below wr.heap.size wr w3) => refCheck_any a5 c5 ps w3 (hat5.below hb3 (Nat.le_refl _)) HSH.out)
          have HK := Lib.hid (fun w3 (hb3 : Below wr.heap.size wr w3) => refKey_ok a5 c5 ps w3 (hat5.below hb3 (Nat.le_refl _)) hck ps.length rfl)
          have HAT := Lib.hid (fun w3 (hb3 : Below wr.heap.size wr w3) => hat5.below hb3 (Nat.le_refl _))
          rw [hck] at HCk
          have HC := Lib.hid hck
          have HIV := Lib.hid hinv
          clear hat5 hinv hck hm
          go_wp2_with (go_at_call 20; refine HMo.out.mono ?_; rintro r w3 ⟨rfl, hb3⟩; refine Hid.out ?_)
          refine Lib.hid ?_
          have hs3 := hb3.size
          have hd1 := (hrs.below hb3).blk.c1
          clear hrs
          go_wp2_with (go_at_call 22; refine (HCk.out w3 hb3).mono ?_; rintro r w4 ⟨rfl, hb4⟩; refine Hid.out ?_)
          refine Lib.hid ?_
          have hs4 := hb4.size
          have hb34 := hb3.trans (hb4.mono hs3)
          go_wp2_with (go_at_call 7; refine (HK.out w4 hb34).mono ?_; rintro r w5 ⟨rfl, hb5⟩; refine Hid.out ?_)
          refine Lib.hid ?_
          have hb35 := hb34.trans (hb5.mono (by omega))
          have hn5 := hnx.trans (hb35.mono hsr)
          by_cases hke : key = keyL ps
          · have hst : (⟨(keyL ps).toArray⟩ : ByteArray) = s := HST.out _ hke
            rw [hst]
            go_wp2
            go_ret2
            exact ⟨.inl ⟨a5, c5, ps, rfl, HAT.out _ hb35, HC.out, hke⟩, hn5⟩
          · have HNo : Hid (∀ qs, checkE qs = 0 → key ≠ keyL qs) := Lib.hid fun qs hq hk => hke (by rw [← inv_stop HIV.out (.inl hm') qs hq hk]; exact hk)
            have hst : ((⟨(keyL ps).toArray⟩ : ByteArray).toList == s.toList) = false := beq_eq_false_iff_ne.2 (HST2.out (keyL ps) (fun h => hke h))
            generalize (⟨(keyL ps).toArray⟩ : ByteArray) = KB at *
            go_wp2
            go_ret2
            exact ⟨.inr ⟨rfl, HNo.out⟩, hn5⟩
        · have HNo : Hid (∀ qs, checkE qs = 0 → key ≠ keyL qs) := Lib.hid fun qs hq hk => hck (by rw [← inv_stop hinv (.inl hm') qs hq hk]; exact hq)
          have HCk := Lib.hid (fun w3 (hb3 : Below wr.heap.size wr w3) => refCheck_any a5 c5 ps w3 (hat5.below hb3 (Nat.le_refl _)) HSH.out)
          have hck' : (checkE ps != 0) = true := by simpa using hck
          generalize checkE ps = E at *
          clear hat5 hinv hck hm
          go_wp2_with (go_at_call 20; refine HMo.out.mono ?_; rintro r w3 ⟨rfl, hb3⟩; refine Hid.out ?_)
          refine Lib.hid ?_
          have hs3 := hb3.size
          have hd1 := (hrs.below hb3).blk.c1
          clear hrs
          go_wp2_with (go_at_call 22; refine (HCk.out w3 hb3).mono ?_; rintro r w4 ⟨rfl, hb4⟩; refine Hid.out ?_)
          refine Lib.hid ?_
          go_wp2
          go_ret2
          exact ⟨.inr ⟨rfl, HNo.out⟩, (hnx.trans (hb3.mono hsr)).trans (hb4.mono (by omega))⟩
      · have HNo := Lib.hid (inv_err hinv he0)
        have he' : (e != 0) = true := by simpa using he0
        clear hat5 hinv hm he0
        go_wp2_with (go_at_call 20; refine HMo.out.mono ?_; rintro r w3 ⟨rfl, hb3⟩; refine Hid.out ?_)
        refine Lib.hid ?_
        have hd1 := (hrs.below hb3).blk.c1
        clear hrs
        go_wp2
        go_ret2
        exact ⟨.inr ⟨rfl, HNo.out⟩, hnx.trans (hb3.mono hsr)⟩

end Go.Proofs.YtpjmfembpckohaaGreatDoor
