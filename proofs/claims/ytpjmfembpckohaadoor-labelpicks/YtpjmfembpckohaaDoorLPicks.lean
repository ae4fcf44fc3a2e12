/-
  The walk of LabelPicks.
-/
import Derived.Test.YtpjmfembpckohaaDoorLPick2
import Derived.Test.YtpjmfembpckohaaDoorLApp
import Derived.Test.YtpjmfembpckohaaDoorLAwake
namespace Go.Proofs.YtpjmfembpckohaaDoor
open Go.RowKit

set_option maxHeartbeats 4000000 in
set_option maxRecDepth 100000 in
theorem picks_walk (a b : Option Addr) (c d : Nat) (ps : List Pr) (s : ByteArray) (ns : List ByteArray) (w : World) (h : PairsAt w a ps) (hc0 : a = none → c = 0) (hs : TextsAt w b ns) (hl : ps.length ≤ 4398046511102) (hnl : ns.length ≤ 9223372036854775807) (hv : TabOk w.heap.size w) :
    Calls Tryd.prog 5 #[.slice a ps.length c, .string s, .slice b ns.length d] w fun e w' => e = .returned (.bool true) ∧ Below w.heap.size w w' := by
  have HP := Lib.hid (Pick_any a b c d ps ns w h hs hl hnl _ rfl _ rfl)
  have HR := Lib.hid (fun w1 (hb : Below w.heap.size w w1) => refPick_any a b c d ps ns w1 (h.below hb (Nat.le_refl _)) (hs.below hb (Nat.le_refl _)) hl hnl _ rfl _ rfl)
  have HG := Lib.hid (fun w1 (hb : Below w.heap.size w w1) => Get_any a c ps s w1 (h.below hb (Nat.le_refl _)) (by omega) _ rfl)
  have HH := Lib.hid (fun w1 (hb : Below w.heap.size w w1) => refGet_any a c ps s w1 (h.below hb (Nat.le_refl _)) (by omega) _ rfl)
  have HSL := Lib.hid (fun w1 (hb : Below w.heap.size w w1) => h.below hb (Nat.le_refl _))
  have hpl := pickL_len ps ns
  have HC0 := Lib.hid hc0
  have hbe : ((getV ps s.toList).toList == (getV ps s.toList).toList) = true := by simp
  generalize getV ps s.toList = V at *
  generalize pickL ps ns = rs at *
  clear h hs hc0
  go_enter Tryd.func5, Tryd.ntmps5
  go_wp2_with (go_at_call 17; refine HP.out.mono ?_; rintro e w1 ⟨a1, c1, rfl, ho1, hb1⟩; refine Hid.out ?_)
  refine Lib.hid ?_
  have hs1 := hb1.size
  go_wp2_with (go_at_call 18; refine (HR.out w1 hb1).mono ?_; rintro e w2 ⟨a2, c2, rfl, ho2, hb2⟩; refine Hid.out ?_)
  refine Lib.hid ?_
  have hn2 := hb1.trans (hb2.mono hs1)
  have hs2 := hb2.size
  have ho12 : OwnP w2 w.heap.size (.slice a1 rs.length c1) rs := ho1.kept (grownBy_of_below (r := none) hb2) (by cases hv : (Value.slice a1 rs.length c1).ownBlock <;> simp)
  obtain ⟨_, _, hq1, hat1, -, -⟩ := ho12.form
  injection hq1 with e1 e2 e3
  subst e1 e3
  obtain ⟨_, _, hq2, hat2, -, -⟩ := ho2.form
  injection hq2 with e1 e2 e3
  subst e1 e3
  clear e2
  have HS := Lib.hid (refSame_any a1 a2 c1 c2 rs rs w2 hat1 hat2 (by omega) _ _ rfl rfl)
  simp only [decide_true] at HS
  go_wp2_with (go_at_call 16; refine HS.out.mono ?_; rintro e w3 ⟨rfl, hb3⟩; refine Hid.out ?_)
  refine Lib.hid ?_
  have hn3 := hn2.trans (hb3.mono (by omega))
  have hs3 := hb3.size
  go_wp2_with (go_at_call 19; refine (HG.out w3 hn3).mono ?_; rintro e w4 ⟨rfl, hb4⟩; refine Hid.out ?_)
  refine Lib.hid ?_
  have hn4 := hn3.trans (hb4.mono (by omega))
  have hs4 := hb4.size
  go_wp2_with (go_at_call 20; refine (HH.out w4 hn4).mono ?_; rintro e w5 ⟨rfl, rfl⟩; refine Hid.out ?_)
  refine Lib.hid ?_
  have ho14 : OwnP w5 w.heap.size (.slice a1 rs.length c1) rs := (World.ownsRow.kept ho12 (grownBy_of_below (r := none) hb3) (by cases hv : (Value.slice a1 rs.length c1).ownBlock <;> simp)).kept (grownBy_of_below (r := none) hb4) (by cases hv : (Value.slice a1 rs.length c1).ownBlock <;> simp)
  have hb6 : Below w5.heap.size w5 (w5.alloc (.cells #[] 35)) := (Below.refl _ _).alloc (Nat.le_refl _) _
  have ho16 : OwnP (w5.alloc (.cells #[] 35)) w.heap.size (.slice a1 rs.length c1) rs := World.ownsRow.alloc ho14 _
  have hlt14 := World.ownsRow.lt ho14
  clear ho12 ho14 hat1 hat2 ho1 ho2 HP HR HS
  go_wp2_with (at_builtin; refine wpList_append_pairs _ rfl _ _ rfl w5.heap.size _ [] rfl (ownP_made w5 w5.heap.size (Nat.le_refl _)) a ps.length c ps rfl rfl (HSL.out _ (hn4.trans (hb6.mono (by omega)))) HC0.out (by simp; omega) (by simp) ?_; refine Hid.out ?_)
  refine Lib.hid ?_
  intro v7 w7 ho7 hg7
  obtain ⟨a7, c7, rfl, hat7, -, -⟩ := ho7.form
  have hb7 : Below w5.heap.size w5 w7 := hb6.grown hg7 (by simp) (fun j hj => by simp [Value.ownBlock] at hj; omega)
  have hs7 := hb7.size
  have hn7 := hn4.trans (hb7.mono (by omega))
  have ho17 : OwnP w7 w.heap.size (.slice a1 rs.length c1) rs := World.ownsRow.kept ho16 hg7 (by
    cases hv : (Value.slice a1 rs.length c1).ownBlock with
    | none => exact .inl rfl
    | some k =>
      refine .inr fun e => ?_
      have := (hlt14 k hv).2
      simp [Value.ownBlock] at e
      omega)
  have hapart : ∀ g, (Value.slice a1 rs.length c1).ownBlock = some g → (Value.slice a7 ps.length c7).ownBlock ≠ some g := fun g hg e => by
    have h1 := (hlt14 g hg).2
    have h2 := (World.ownsRow.lt ho7 g e).1
    omega
  have HO7 := Lib.hid ho7
  clear ho16 hg7 ho7 hat7 hlt14
  have HAP := Lib.hid hapart
  clear hapart
  go_wp2
  go_loopw [10] (fun i wr => ∃ (k : Nat) (qs : List Pr), k ≤ rs.length ∧ i = .int .i64 k ∧ qs.length = rs.length ∧ OwnP wr w.heap.size (.slice a1 rs.length c1) qs ∧ OwnP wr w5.heap.size (.slice a7 ps.length c7) ps ∧ Below w.heap.size w7 wr) (fun i _ => rs.length - (intOf i).toNat)
  case atStart => exact ⟨0, rs, Nat.zero_le _, rfl, rfl, ho17, HO7.out, Below.refl _ _⟩
  case round =>
    obtain ⟨k, qs, hk, rfl, hql, hoA, hoB, hbr⟩ := hrel
    have HQL := Lib.hid hql
    have hsr := hbr.size
    by_cases hlt : k < rs.length
    · have hkl : (k : Int) < (rs.length : Int) := by omega
      have hkq : k < qs.length := by omega
      obtain ⟨g, rfl, hgB, hfr, hc2, -, hst, -⟩ := hoA.store hql.symm k hkq
      obtain ⟨hoA2, hgr⟩ := hst ⟨#[63]⟩
      have hfr1 := hfr (k * 2 + 1)
      have hoB2 : OwnP (wr.setCell ⟨g, k * 2 + 1, none⟩ (.string ⟨#[63]⟩)) w5.heap.size (.slice a7 ps.length c7) ps := World.ownsRow.kept hoB hgr (.inr (HAP.out g rfl))
      have hbr2 : Below w.heap.size w7 (wr.setCell ⟨g, k * 2 + 1, none⟩ (.string ⟨#[63]⟩)) := hbr.setCell hgB _
      clear hst hgr hfr hql hoA hoB
      go_wp2
      go_roundw
      case rel => exact ⟨k + 1, _, by omega, by go_num, by rw [List.length_set]; exact HQL.out, hoA2, hoB2, hbr2⟩
      case measure => simp [intOf]; omega
    · obtain rfl : k = rs.length := by omega
      have hn8 := hn7.trans (hbr.mono (Nat.le_refl _))
      have hs8 := hn8.size
      obtain ⟨_, _, hq8, hat8, -, -⟩ := hoB.form
      injection hq8 with e1 e2 e3
      subst e1 e3
      have HS8 := Lib.hid (refSame_any a7 a c7 c ps ps wr hat8 (HSL.out _ hn8) (by omega) _ _ rfl rfl)
      simp only [decide_true] at HS8
      clear hat8 hoA hoB hql HQL
      go_wp2_with (go_at_call 16; refine HS8.out.mono ?_; rintro e w9 ⟨rfl, hb9⟩; refine Hid.out ?_)
      refine Lib.hid ?_
      have hn9 := hn8.trans (hb9.mono hs8)
      have hs9 := hn9.size
      go_wp2_with (go_at_call 12; refine (awake_any w.heap.size _ hs9 (hv.on hn9)).mono ?_; rintro e wA ⟨rfl, hbA⟩; refine Hid.out ?_)
      refine Lib.hid ?_
      go_wp2
      go_ret
      exact ⟨rfl, hn9.trans (hbA.mono hs9)⟩

end Go.Proofs.YtpjmfembpckohaaDoor
