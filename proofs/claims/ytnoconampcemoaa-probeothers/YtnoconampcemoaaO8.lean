/-
  bury of package probe: who was watched for long enough is told to be dead.
-/
import Derived.Test.YtnoconampcemoaaO7
import Derived.Deep.Cut
namespace Go.Proofs.Ytnoconampcemoaa
open Go Go.RowKit

/-- What the loop holds behind k nodes. -/
structure BurySt (w wr : World) (b d : Nat) (P : Pb) (T : Tb) (now : Int) (k : Nat) (v : Value) : Prop where
  own : OwnMx wr w.heap.size v (goneTo P T now k)
  pb : PbBlk wr b (buryTo P T now k)
  tab : TabBlk wr d T
  grown : w.grownBy wr (some b)
theorem BurySt.on {w wr u : World} {b d : Nat} {P : Pb} {T : Tb} {now : Int} {k : Nat} {v : Value} (h : BurySt w wr b d P T now k v) (q : Below wr.heap.size wr u) : BurySt w u b d P T now k v :=
  ⟨h.own.on q, h.pb.on q, h.tab.on q, grownBy_trans h.grown (grownBy_of_below q)⟩
theorem BurySt.stay {w wr : World} {b d : Nat} {P : Pb} {T : Tb} {now : Int} {k : Nat} {v : Value} (h : BurySt w wr b d P T now k v) (h1 : buryW P T now k = P.w k) (h2 : goneM P T now k = none) : BurySt w wr b d P T now (k + 1) v :=
  ⟨by rw [goneTo_succ, h2]; simpa using h.own, by rw [buryTo_stay P T now k h1]; exact h.pb, h.tab, h.grown⟩
theorem BurySt.drop {w wr : World} {b d : Nat} {P : Pb} {T : Tb} {now : Int} {k : Nat} {v : Value} (h : BurySt w wr b d P T now k v) (hk : k < 64) (hb : b < w.heap.size) (hbd : b ≠ d) (h1 : buryW P T now k = zW) (h2 : goneM P T now k = none) : BurySt w (stW wr b k zW) b d P T now (k + 1) v :=
  ⟨by rw [goneTo_succ, h2]; simpa using h.own.turn (stW_grown _ _ _ _) hb, by rw [buryTo_drop P T now k h1]; exact h.pb.setW k hk zW, h.tab.kept (stW_grown _ _ _ _) (by simp; omega), grownBy_trans h.grown (stW_grown _ _ _ _)⟩
theorem bury_off {P : Pb} {T : Tb} {now : Int} {k : Nat} (h : (P.w k).on = false) : buryW P T now k = P.w k ∧ goneM P T now k = none := by
  unfold buryW goneM; rw [h]; exact ⟨rfl, rfl⟩
theorem bury_free {P : Pb} {T : Tb} {now : Int} {k : Nat} (h : (P.w k).on = true) (h2 : suspB P T k = false) : buryW P T now k = zW ∧ goneM P T now k = none := by
  unfold buryW goneM; rw [h, h2]; exact ⟨rfl, rfl⟩
theorem bury_early {P : Pb} {T : Tb} {now : Int} {k : Nat} (h : (P.w k).on = true) (h2 : suspB P T k = true) (h3 : earlyB P now k = true) : buryW P T now k = P.w k ∧ goneM P T now k = none := by
  unfold buryW goneM; rw [h, h2, h3]; exact ⟨rfl, rfl⟩
theorem bury_dead {P : Pb} {T : Tb} {now : Int} {k : Nat} (h : (P.w k).on = true) (h2 : suspB P T k = true) (h3 : earlyB P now k = false) : buryW P T now k = zW ∧ goneM P T now k = some ⟨(atT T k).n, 2, (atT T k).i⟩ := by
  unfold buryW goneM; rw [h, h2, h3]; exact ⟨rfl, rfl⟩

set_option maxRecDepth 20000 in
set_option maxHeartbeats 16000000 in
theorem pbbury_any (b d : Nat) (P : Pb) (T : Tb) (now : Int) (w : World) (hP : PbBlk w b P) (hT : TabBlk w d T) (hok : PbOk P) (htk : TbOk T) (hnow : timeOk now = true) (hbd : b ≠ d) :
    Calls Try.prog 34 #[.pointer (some ⟨b, 0, none⟩), .int .i64 now, .pointer (some ⟨d, 0, none⟩)] w (NewsPost b d ⟨buryP P T now, mergeB T (goneL P T now), [], mergeM T (goneL P T now)⟩ w) := by
  have HOK := Lib.hid hok
  have HTK := Lib.hid htk
  have HNow := Lib.hid ((timeOk_iff now).1 hnow)
  have HBD := Lib.hid hbd
  have HBL := Lib.hid hP.lt
  have HDL := Lib.hid hT.lt
  have HS : Hid (BurySt w w b d P T now 0 (.slice none 0 0)) := Lib.hid ⟨OwnMx.nil _ _, by rw [buryTo_zero]; exact hP, hT, grownBy_refl _ _⟩
  clear hok htk hnow hbd hP hT
  go_enter Try.func34, Try.ntmps34
  go_wp2
  go_loopw [7, 13] (fun v x wr => ∃ (k : Nat) (a7 : Option Addr) (n7 c7 : Nat), k ≤ 64 ∧ x = .int .i64 (k : Int) ∧ v = .slice a7 n7 c7 ∧ Hid (BurySt w wr b d P T now k (.slice a7 n7 c7))) (fun _ x _ => 64 - (intOf x).toNat)
  case atStart => exact ⟨0, none, 0, 0, Nat.zero_le _, rfl, rfl, HS⟩
  case round =>
    clear HS
    obtain ⟨k, a7, n7, c7, hk, rfl, rfl, HS⟩ := hrel
    by_cases hlt : k < 64
    case neg =>
      obtain rfl : k = 64 := by omega
      have HMe := Lib.hid (by
        obtain ⟨x, y, e, -, hge, -⟩ := HS.out.own.form
        simp only [Value.slice.injEq] at e
        obtain ⟨rfl, rfl, rfl⟩ := e
        exact bMerge_any d T a7 c7 (goneTo P T now 64).length (goneTo P T now 64) (fun m hm => (goneTo_fit HTK.out m hm).1) rfl (by have := goneTo_len P T now 64; omega) wr HS.out.tab HS.out.own.mems (fun _ q e => by have := (hge q e).1; have := HDL.out; omega))
      have HN7 : Hid (n7 = (goneTo P T now 64).length) := Lib.hid (by obtain ⟨x, y, e, -⟩ := HS.out.own.form; simp only [Value.slice.injEq] at e; exact e.2.1)
      rw [← HN7.out] at HMe
      have hkl : ¬ ((64 : Nat) : Int) < 64 := by omega
      clear hlt
      go_wp2_with (go_at_call 52; refine HMe.out.mono ?_; rintro e w5 ⟨a5, n5, c5, rfl, o5, t5, g5⟩; replace o5 := Lib.hid o5; replace t5 := Lib.hid t5; replace g5 := Lib.hid g5; refine Hid.out ?_)
      refine Lib.hid ?_
      go_wp2
      go_ret
      exact ⟨_, _, _, rfl, o5.out.base HS.out.grown.size, HS.out.pb.kept g5.out (by have := HBD.out; simp; omega), t5.out, (Grown2.one HS.out.grown).trans (Grown2.two g5.out)⟩
    have hkl : (k : Int) < 64 := by omega
    have hk6 : (k : Int) % 65536 = (k : Int) := by omega
    have hW := HS.out.pb.wat hlt
    rw [buryTo_at] at hW
    obtain ⟨x0, x1, x2⟩ := hW
    have f0 := HS.out.pb.f
    cases hon : (P.w k).on with
    | false =>
      rw [hon] at x0
      have HS1 := Lib.hid (HS.out.stay (bury_off hon).1 (bury_off hon).2)
      clear hon
      go_wp2
      go_roundw
      case rel => exact ⟨k + 1, _, _, _, by omega, by go_num, rfl, HS1⟩
      case measure => simp [intOf]; omega
    | true =>
    rw [hon] at x0
    obtain ⟨r, hr⟩ : ∃ r, (T.f k).isSome = r := ⟨_, rfl⟩
    have HGe := Lib.hid (bGet_any d T k wr HS.out.tab (atT T k) r (by unfold getR; rw [if_pos hlt, hr]))
    have hsu : suspB P T k = (((atT T k).s == 1) && ((atT T k).i == (P.w k).i)) := rfl
    have hea : earlyB P now k = decide (now - (P.w k).a < 3 * P.per) := rfl
    have HFree := Lib.hid (fun h => bury_free (T := T) (now := now) hon h)
    have HEarly := Lib.hid (fun h h' => bury_early (T := T) (now := now) hon h h')
    have HDead := Lib.hid (fun h h' => bury_dead (T := T) (now := now) hon h h')
    have kw1 : wrap64 (now - (P.w k).a) = now - (P.w k).a := by have := HNow.out; have := HOK.out.w k; unfold wrap64; omega
    have kw2 : wrap64 (3 * P.per) = 3 * P.per := by have := HOK.out.per; unfold wrap64; omega
    have HLow := Lib.hid (atTlow HTK.out k)
    have HWk : Hid (P.w k = ⟨true, (P.w k).i, (P.w k).a⟩) := Lib.hid (by rw [← hon])
    generalize (P.w k).i = wi at *
    generalize (P.w k).a = wa at *
    generalize suspB P T k = su at *
    generalize earlyB P now k = ea at *
    generalize atT T k = m at *
    obtain ⟨mn, ms, mi⟩ := m
    dsimp only at HGe hsu HDead HLow
    clear hon hr
    go_wp2_with (go_at_call 22; refine HGe.out.mono ?_; rintro e w2 ⟨rfl, q2⟩; replace q2 := Lib.hid q2; refine Hid.out ?_)
    refine Lib.hid ?_
    go_wp2_with fail
    have hS3 := (HS.out.on q2.out).on ((Below.refl w2.heap.size w2).alloc (Nat.le_refl _) (.cells #[.int .u16 mn, .int .u8 ms, .int .i64 mi] 43))
    have hM3 : Mb (w2.alloc (.cells #[.int .u16 mn, .int .u8 ms, .int .i64 mi] 43)) w2.heap.size ⟨mn, ms, mi⟩ := Mb.new w2 ⟨mn, ms, mi⟩
    have hz3 : w2.heap.size < (w2.alloc (.cells #[.int .u16 mn, .int .u8 ms, .int .i64 mi] 43)).heap.size := by simp
    have hwz : w.heap.size ≤ w2.heap.size := by have := HS.out.grown.size; have := q2.out.size; omega
    have hob : ∀ j, (Value.slice a7 n7 c7).ownBlock = some j → w.heap.size ≤ j ∧ j < w2.heap.size := fun j hj => by
      have h1 := World.ownsRow.lt HS.out.own j hj
      have := q2.out.size
      omega
    clear x0 x1 x2 f0 HS q2 HGe
    generalize w2.alloc (.cells #[.int .u16 mn, .int .u8 ms, .int .i64 mi] 43) = W3 at *
    generalize w2.heap.size = B at *
    have HOB := Lib.hid hob
    clear hob
    have hne : B ≠ b := by have := HBL.out; omega
    have hne2 : b ≠ B := by omega
    have hW3 := hS3.pb.wat hlt
    have c1 := hS3.pb.at.c1
    have f0 := hS3.pb.f
    have f1 := hM3.f
    have m0 := hM3.c0
    have m1 := hM3.c1
    have m2 := hM3.c2
    dsimp only at m0 m1 m2
    obtain ⟨x0, x1, x2⟩ : W3.cell? ⟨b, 9 + k * 3, none⟩ = some (.bool true) ∧ W3.cell? ⟨b, 9 + k * 3 + 1, none⟩ = some (.int .i64 wi) ∧ W3.cell? ⟨b, 9 + k * 3 + 2, none⟩ = some (.int .i64 wa) := by
      rw [buryTo_at] at hW3
      rw [HWk.out] at hW3
      exact hW3
    clear hW3
    replace c1 : W3.cell? ⟨b, 1, none⟩ = some (.int .i64 P.per) := c1
    have HS3 := Lib.hid hS3
    have HM3 := Lib.hid hM3
    clear hS3 hM3
    have HUp : Hid (∀ n : Nat, Below W3.heap.size W3 (W3.drewN n)) := Lib.hid (fun n => ⟨rfl, rfl, rfl, Nat.le_refl _, fun _ _ => rfl⟩)
    by_cases hs1 : ms = 1
    case neg =>
      have hs1b : (ms == 1) = false := by simpa using hs1
      have HS4 : Hid (∀ u, Below W3.heap.size W3 u → BurySt w (stW u b k zW) b d P T now (k + 1) (.slice a7 n7 c7)) := Lib.hid (fun u hu => by
        obtain ⟨e1, e2⟩ := HFree.out (by rw [hsu, hs1b]; rfl)
        exact (HS3.out.on hu).drop hlt HBL.out HBD.out e1 e2)
      clear hsu hea
      go_quiet (fail)
      go_wp2_with fail
      go_quiet (fail)
      go_wp2
      go_roundw
      case rel => exact ⟨k + 1, _, _, _, by omega, by go_num, rfl, HS4.out _ ⟨rfl, rfl, rfl, Nat.le_refl _, fun _ _ => rfl⟩⟩
      case measure => simp [intOf]; omega
    subst hs1
    by_cases hi1 : mi = wi
    case neg =>
      have hi1b : (mi == wi) = false := by simpa using hi1
      have HS4 : Hid (∀ u, Below W3.heap.size W3 u → BurySt w (stW u b k zW) b d P T now (k + 1) (.slice a7 n7 c7)) := Lib.hid (fun u hu => by
        obtain ⟨e1, e2⟩ := HFree.out (by rw [hsu, hi1b]; rfl)
        exact (HS3.out.on hu).drop hlt HBL.out HBD.out e1 e2)
      clear hsu hea
      go_quiet (fail)
      go_wp2_with fail
      go_quiet (fail)
      go_wp2
      go_roundw
      case rel => exact ⟨k + 1, _, _, _, by omega, by go_num, rfl, HS4.out _ ⟨rfl, rfl, rfl, Nat.le_refl _, fun _ _ => rfl⟩⟩
      case measure => simp [intOf]; omega
    subst hi1
    have hsu2 : su = true := by rw [hsu]; simp
    have HSU := Lib.hid hsu2
    clear hsu hsu2
    by_cases he1 : now - wa < 3 * P.per
    case pos =>
      have HS4 : Hid (∀ u, Below W3.heap.size W3 u → BurySt w u b d P T now (k + 1) (.slice a7 n7 c7)) := Lib.hid (fun u hu => by
        obtain ⟨e1, e2⟩ := HEarly.out HSU.out (by rw [hea]; exact decide_eq_true he1)
        exact (HS3.out.on hu).stay e1 e2)
      have he2 : decide (now - wa < 3 * P.per) = true := decide_eq_true he1
      clear hea
      go_quiet (fail)
      go_wp2_with fail
      go_quiet (fail)
      go_wp2
      go_roundw
      case rel => exact ⟨k + 1, _, _, _, by omega, by go_num, rfl, HS4.out _ ⟨rfl, rfl, rfl, Nat.le_refl _, fun _ _ => rfl⟩⟩
      case measure => simp [intOf]; omega
    have he2 : decide (now - wa < 3 * P.per) = false := decide_eq_false he1
    have HGo : Hid (goneTo P T now (k + 1) = goneTo P T now k ++ [⟨mn, 2, mi⟩] ∧ buryTo P T now (k + 1) = (buryTo P T now k).setW k zW) := Lib.hid (by
      obtain ⟨e1, e2⟩ := HDead.out HSU.out (by rw [hea]; exact he2)
      exact ⟨by rw [goneTo_succ, e2]; rfl, buryTo_drop P T now k e1⟩)
    have hlen : (goneTo P T now k).length ≤ 100000 := by have := goneTo_len P T now k; omega
    have HS4 : Hid (∀ u, Below W3.heap.size W3 u → OwnMx (stW u b k zW) w.heap.size (.slice a7 n7 c7) (goneTo P T now k) ∧ PbBlk (stW u b k zW) b ((buryTo P T now k).setW k zW) ∧ TabBlk (stW u b k zW) d T ∧ w.grownBy (stW u b k zW) (some b) ∧ Mb (stW u b k zW) B ⟨mn, 1, mi⟩) := Lib.hid (fun u hu => by
      have h := HS3.out.on hu
      exact ⟨h.own.turn (stW_grown _ _ _ _) HBL.out, h.pb.setW k hlt zW, h.tab.kept (stW_grown _ _ _ _) (by have := HBD.out; simp; omega), grownBy_trans h.grown (stW_grown _ _ _ _), (HM3.out.on hu).kept (stW_grown _ _ _ _) (by simp; omega)⟩)
    clear hea
    go_quiet (fail)
    revert nq
    intro n1
    go_wp2_with fail
    go_quiet (fail)
    revert nq
    intro n2
    go_upto_region 12 with fail
    have hX : OwnMx ((((W3.drewN (n1 + n2)).setCell ⟨b, 9 + k * 3, none⟩ (.bool false)).setCell ⟨b, 9 + k * 3 + 1, none⟩ (.int .i64 0)).setCell ⟨b, 9 + k * 3 + 2, none⟩ (.int .i64 0)) w.heap.size (.slice a7 n7 c7) (goneTo P T now k) ∧ PbBlk ((((W3.drewN (n1 + n2)).setCell ⟨b, 9 + k * 3, none⟩ (.bool false)).setCell ⟨b, 9 + k * 3 + 1, none⟩ (.int .i64 0)).setCell ⟨b, 9 + k * 3 + 2, none⟩ (.int .i64 0)) b ((buryTo P T now k).setW k zW) ∧ TabBlk ((((W3.drewN (n1 + n2)).setCell ⟨b, 9 + k * 3, none⟩ (.bool false)).setCell ⟨b, 9 + k * 3 + 1, none⟩ (.int .i64 0)).setCell ⟨b, 9 + k * 3 + 2, none⟩ (.int .i64 0)) d T ∧ w.grownBy ((((W3.drewN (n1 + n2)).setCell ⟨b, 9 + k * 3, none⟩ (.bool false)).setCell ⟨b, 9 + k * 3 + 1, none⟩ (.int .i64 0)).setCell ⟨b, 9 + k * 3 + 2, none⟩ (.int .i64 0)) (some b) ∧ Mb ((((W3.drewN (n1 + n2)).setCell ⟨b, 9 + k * 3, none⟩ (.bool false)).setCell ⟨b, 9 + k * 3 + 1, none⟩ (.int .i64 0)).setCell ⟨b, 9 + k * 3 + 2, none⟩ (.int .i64 0)) B ⟨mn, 1, mi⟩ := HS4.out (W3.drewN (n1 + n2)) ⟨rfl, rfl, rfl, Nat.le_refl _, fun _ _ => rfl⟩
    clear HS4 HS3 HM3 HUp f0 f1 m0 m1 m2 x0 x1 x2 c1 he1 he2 hz3 HEarly HFree HDead kw1 kw2
    generalize (((W3.drewN (n1 + n2)).setCell ⟨b, 9 + k * 3, none⟩ (.bool false)).setCell ⟨b, 9 + k * 3 + 1, none⟩ (.int .i64 0)).setCell ⟨b, 9 + k * 3 + 2, none⟩ (.int .i64 0) = Wc at *
    clear W3
    obtain ⟨ho, hp, ht, hg, hm⟩ := hX
    have f1 := hm.f
    have m0 := hm.c0
    have m1 := hm.c1
    have m2 := hm.c2
    dsimp only at m0 m1 m2
    have hm4 : Mb (Wc.setCell ⟨B, 1, none⟩ (.int .u8 2)) B ⟨mn, 2, mi⟩ := by
      unfold Mb at hm ⊢
      simp [World.setCell, Array.getElem?_modify, hm]
    have hg4 := grownBy_setCell Wc B 1 (.int .u8 2)
    have hp4 := hp.kept hg4 (by simp; omega)
    have ht4 := ht.kept hg4 (by have := HDL.out; simp; omega)
    have hb4 : Below B Wc (Wc.setCell ⟨B, 1, none⟩ (.int .u8 2)) := below_of_grownBy hg4 (Nat.le_refl _) (Nat.le_of_lt hm.lt)
    have ho4 : OwnMx (Wc.setCell ⟨B, 1, none⟩ (.int .u8 2)) w.heap.size (.slice a7 n7 c7) (goneTo P T now k) := World.ownsRow.kept ho hg4 (.inr fun e => by have := (HOB.out B e).2; omega)
    have hs4 := hg4.size
    have HG4 := Lib.hid (And.intro hg hg4)
    have HP4 := Lib.hid hp4
    have HT4 := Lib.hid ht4
    clear ho hp ht hg hm hg4 hp4 ht4 hb4
    have hm0 := hm4.c0
    have hm1 := hm4.c1
    have hm2 := hm4.c2
    dsimp only at hm0 hm1 hm2
    clear hm4
    go_upto_region 13 with fail
    clear f1 m0 m1 m2
    generalize Wc.setCell ⟨B, 1, none⟩ (.int .u8 2) = Wd at *
    obtain ⟨i0, hi, hi0, hi1, hi2⟩ := infoM
    have HGo2 : Hid (goneTo P T now (k + 1) = goneTo P T now k ++ [⟨mn, 2, mi⟩]) := Lib.hid HGo.out.1
    have HBu2 : Hid (buryTo P T now (k + 1) = (buryTo P T now k).setW k zW) := Lib.hid HGo.out.2
    have hwd : w.heap.size ≤ Wd.heap.size := by have := HG4.out.1.size; omega
    clear HGo
    generalize goneTo P T now k = acc at *
    have hown3 : Wd.ownsRow w.heap.size 43 3 (.slice a7 n7 c7) acc.length (cellsMx acc) := ho4
    clear ho4
    go_wp2_with (at_builtin; refine wpList_append_own _ rfl _ _ 33 rfl w.heap.size 43 i0 _ 3 16 Try.underlying33 hi hi0 hi1 hi2 rfl (by decide) _ _ _ rfl (World.ownsRow.alloc hown3 _) ⟨Wd.heap.size, 0, none⟩ 1 1 [.int .u16 mn, .int .u8 2, .int .i64 mi] rfl rfl (World.news_of_block (cs := #[.int .u16 mn, .int .u8 2, .int .i64 mi]) (newE _ _)) (by intro u' hu'; simp at hu'; rcases hu' with rfl | rfl | rfl <;> rfl) (by unfold maxLen; omega) (by omega) (by simp; omega) ?_; refine Hid.out ?_)
    refine Lib.hid ?_
    intro v7 w7 hown7 hg7 _
    have hA7 : OwnMx w7 w.heap.size v7 (acc ++ [⟨mn, 2, mi⟩]) := OwnMx.push hown7
    obtain ⟨a9, c9, rfl, -, -, -⟩ := hA7.form
    have s7 : Below w.heap.size Wd w7 := (((Below.refl Wd.heap.size Wd).alloc (Nat.le_refl _) (.cells #[.int .u16 mn, .int .u8 2, .int .i64 mi] 43)).mono hwd).grown hg7 (by simp; omega) (fun j hj => (HOB.out j hj).1)
    have HST : Hid (BurySt w w7 b d P T now (k + 1) (.slice a9 (acc ++ [(⟨mn, 2, mi⟩ : Mem)]).length c9)) := Lib.hid ⟨by rw [HGo2.out]; exact hA7, by rw [HBu2.out]; exact HP4.out.below s7 HBL.out, HT4.out.below s7 HDL.out, by
      have h1 : w.grownBy Wd (some b) := ⟨HG4.out.2.os.trans HG4.out.1.os, HG4.out.2.tape.trans HG4.out.1.tape, HG4.out.2.output.trans HG4.out.1.output, Nat.le_trans HG4.out.1.size HG4.out.2.size, fun q hq hr => (HG4.out.2.block q (Nat.lt_of_lt_of_le hq HG4.out.1.size) (by simp; omega)).trans (HG4.out.1.block q hq hr)⟩
      exact grown_then h1 s7⟩
    clear hA7 s7 hown7 hg7 hown3 hi hi0 hi1 hi2 HGo2 HBu2 HP4 HT4 HG4 hlen
    generalize (acc ++ [(⟨mn, 2, mi⟩ : Mem)]).length = n9 at *
    go_wp2
    go_roundw
    case rel => exact ⟨k + 1, _, _, _, by omega, by go_num, rfl, HST⟩
    case measure => simp [intOf]; omega

end Go.Proofs.Ytnoconampcemoaa
