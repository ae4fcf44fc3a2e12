/-
  What Check of package entry tells, and the reference's Check, Above and Later; whether two entries are one.
-/
import Derived.Test.YtkbonifbnbdbkabE2
namespace Go.Proofs.Ytkbonifbnbdbkab
open Go.RowKit

/-- Why an entry may not be (0: it may). -/
def checkEn (x : Ent) : Int := if x.k.size = 0 ∨ 1024 < x.k.size ∨ 8192 < x.v.size then 5 else if x.t < 0 ∨ 1099511627776 < x.t ∨ x.u < x.t ∨ 1099511627776 < x.u then 13 else 0
theorem esize_zero (k : ByteArray) : k.size = 0 ↔ k = ⟨#[]⟩ := by
  obtain ⟨⟨l⟩⟩ := k
  constructor
  · intro h
    have : l.length = 0 := h
    rw [List.length_eq_zero_iff.1 this]
  · intro h
    have : l = [] := by injection h with h; injection h
    rw [this]; rfl
theorem toList_nil (k : ByteArray) : (k.toList = []) ↔ k.size = 0 := by
  rw [ByteArray.toList_eq, List.eq_nil_iff_length_eq_zero]
  exact Iff.rfl

set_option maxHeartbeats 4000000 in
set_option maxRecDepth 20000 in
theorem eCheck_any (x : Ent) (W : World) : Calls Try.prog 34 #[.agg #[.string x.k, .int .i64 x.t, .int .u16 x.o, .string x.v, .int .i64 x.u]] W fun e w' => e = .returned (.int .i64 (checkEn x)) ∧ Below W.heap.size W w' := by
  have d1 := (Below.refl _ W).alloc (Nat.le_refl _) (.cells #[.string x.k, .int .i64 x.t, .int .u16 x.o, .string x.v, .int .i64 x.u] 36)
  have HD := Lib.hid d1
  clear d1
  by_cases h0 : x.k.size = 0
  · have g0 : (x.k.toList == ([] : List UInt8)) = true := by rw [(toList_nil _).2 h0]; rfl
    have g0i : ((x.k.size : Int) < 1) := by omega
    have HE : Hid (checkEn x = 5) := Lib.hid (by unfold checkEn; rw [if_pos (by omega)])
    generalize checkEn x = R at *
    go_enter Try.func34, Try.ntmps34
    go_wp2
    go_ret
    exact ⟨by rw [HE.out]; rfl, HD.out⟩
  · have g0 : (x.k.toList == ([] : List UInt8)) = false := by rw [beq_eq_false_iff_ne]; exact fun e => h0 ((toList_nil _).1 e)
    have g0i : ¬ ((x.k.size : Int) < 1) := by omega
    by_cases h1 : 1024 < x.k.size
    · have g1 : ((1024 : Int) < (x.k.size : Int)) := by omega
      have HE : Hid (checkEn x = 5) := Lib.hid (by unfold checkEn; rw [if_pos (by omega)])
      generalize checkEn x = R at *
      go_enter Try.func34, Try.ntmps34
      go_wp2
      go_ret
      exact ⟨by rw [HE.out]; rfl, HD.out⟩
    · have g1 : ¬ ((1024 : Int) < (x.k.size : Int)) := by omega
      by_cases h2 : 8192 < x.v.size
      · have g2 : ((8192 : Int) < (x.v.size : Int)) := by omega
        have HE : Hid (checkEn x = 5) := Lib.hid (by unfold checkEn; rw [if_pos (by omega)])
        generalize checkEn x = R at *
        go_enter Try.func34, Try.ntmps34
        go_wp2
        go_ret
        exact ⟨by rw [HE.out]; rfl, HD.out⟩
      · have g2 : ¬ ((8192 : Int) < (x.v.size : Int)) := by omega
        by_cases h3 : x.t < 0
        · have HE : Hid (checkEn x = 13) := Lib.hid (by unfold checkEn; rw [if_neg (by omega), if_pos (by omega)])
          generalize checkEn x = R at *
          go_enter Try.func34, Try.ntmps34
          go_wp2
          go_ret
          exact ⟨by rw [HE.out]; rfl, HD.out⟩
        · by_cases h4 : 1099511627776 < x.t
          · have HE : Hid (checkEn x = 13) := Lib.hid (by unfold checkEn; rw [if_neg (by omega), if_pos (by omega)])
            generalize checkEn x = R at *
            go_enter Try.func34, Try.ntmps34
            go_wp2
            go_ret
            exact ⟨by rw [HE.out]; rfl, HD.out⟩
          · by_cases h5 : x.u < x.t
            · have HE : Hid (checkEn x = 13) := Lib.hid (by unfold checkEn; rw [if_neg (by omega), if_pos (by omega)])
              generalize checkEn x = R at *
              go_enter Try.func34, Try.ntmps34
              go_wp2
              go_ret
              exact ⟨by rw [HE.out]; rfl, HD.out⟩
            · by_cases h6 : 1099511627776 < x.u
              · have HE : Hid (checkEn x = 13) := Lib.hid (by unfold checkEn; rw [if_neg (by omega), if_pos (by omega)])
                generalize checkEn x = R at *
                go_enter Try.func34, Try.ntmps34
                go_wp2
                go_ret
                exact ⟨by rw [HE.out]; rfl, HD.out⟩
              · have HE : Hid (checkEn x = 0) := Lib.hid (by unfold checkEn; rw [if_neg (by omega), if_neg (by omega)])
                generalize checkEn x = R at *
                go_enter Try.func34, Try.ntmps34
                go_wp2
                go_ret
                exact ⟨by rw [HE.out]; rfl, HD.out⟩

/-! Entries compared, plainly. -/
theorem lessE : ∀ (x y : List UInt8), Op.bytesLess x y = decide (x < y)
  | _, [] => by simp [Op.bytesLess]
  | [], _ :: _ => by simp [Op.bytesLess]
  | a :: x, b :: y => by
    rw [Op.bytesLess, lessE x y]
    simp only [List.cons_lt_cons_iff, Bool.decide_or, Bool.decide_and]
    rfl
theorem triE {a b : List UInt8} (h : ¬ a < b) (hn : ¬ b < a) : a = b := List.le_antisymm (by simpa using hn) (by simpa using h)
theorem comp_zeroE : ∀ (x y : List UInt8), Lib.compareBytes x y = 0 ↔ x = y
  | [], [] => by simp [Lib.compareBytes]
  | [], _ :: _ => by simp [Lib.compareBytes]
  | _ :: _, [] => by simp [Lib.compareBytes]
  | a :: x, b :: y => by
    rw [Lib.compareBytes, List.cons.injEq]
    have ih := comp_zeroE x y
    by_cases h1 : a < b
    · have : a ≠ b := fun e => UInt8.lt_irrefl b (e ▸ h1)
      simp [h1, this]
    · by_cases h2 : b < a
      · have : a ≠ b := fun e => UInt8.lt_irrefl b (e ▸ h2)
        simp [h1, h2, this]
      · have : a = b := UInt8.le_antisymm (UInt8.not_lt.1 h2) (UInt8.not_lt.1 h1)
        simp [this, ih]
theorem comp_posE : ∀ (x y : List UInt8), 0 < Lib.compareBytes x y ↔ y < x
  | [], [] => by simp [Lib.compareBytes]
  | [], _ :: _ => by simp [Lib.compareBytes]
  | _ :: _, [] => by simp [Lib.compareBytes]
  | a :: x, b :: y => by
    rw [Lib.compareBytes, List.cons_lt_cons_iff]
    have ih := comp_posE x y
    by_cases h1 : a < b
    · have h2 : ¬ b < a := fun h => UInt8.lt_irrefl b (UInt8.lt_trans h h1)
      have h3 : b ≠ a := fun e => UInt8.lt_irrefl b (e ▸ h1)
      simp [h1, h2, h3]
    · by_cases h2 : b < a
      · simp [h1, h2]
      · have : a = b := UInt8.le_antisymm (UInt8.not_lt.1 h2) (UInt8.not_lt.1 h1)
        simp [this, ih]
theorem cmpIE_zero (x y : Int) : cmpIE x y = 0 ↔ x = y := by unfold cmpIE; split <;> (try split) <;> omega
theorem cmpIE_pos (x y : Int) : 0 < cmpIE x y ↔ y < x := by unfold cmpIE; split <;> (try split) <;> omega
def Ent.vl (x : Ent) : List UInt8 := x.v.data.toList
/-- Above, in the document's words. -/
def AboveP (x y : Ent) : Prop := y.t < x.t ∨ (x.t = y.t ∧ (y.o < x.o ∨ (x.o = y.o ∧ (y.vl < x.vl ∨ (x.vl = y.vl ∧ y.u < x.u)))))
theorem above_iff (x y : Ent) : aboveE x y = true ↔ AboveP x y := by
  change firstP [cmpIE x.t y.t, cmpIE x.o y.o, Lib.compareBytes x.vl y.vl, cmpIE x.u y.u] = true ↔ _
  unfold AboveP
  generalize x.vl = vx
  generalize y.vl = vy
  simp only [firstP, cmpIE_zero, comp_zeroE]
  by_cases h1 : x.t = y.t
  · rw [if_pos h1]
    have : ¬ y.t < x.t := by omega
    by_cases h2 : x.o = y.o
    · rw [if_pos h2]
      have : ¬ y.o < x.o := by omega
      by_cases h3 : vx = vy
      · subst h3
        rw [if_pos rfl]
        have h4 : ¬ vx < vx := List.lt_irrefl _
        by_cases h5 : x.u = y.u
        · rw [if_pos h5]; simp [*]
        · rw [if_neg h5, decide_eq_true_eq, cmpIE_pos]; simp [*]
      · rw [if_neg h3, decide_eq_true_eq, comp_posE]; simp [*]
    · rw [if_neg h2, decide_eq_true_eq, cmpIE_pos]; simp [*]
  · rw [if_neg h1, decide_eq_true_eq, cmpIE_pos]; simp [*]
theorem above_irrefl (x : Ent) : aboveE x x = false := by
  rw [Bool.eq_false_iff]
  intro h
  rcases (above_iff x x).1 h with h | ⟨-, h | ⟨-, h | ⟨-, h⟩⟩⟩
  · omega
  · omega
  · exact List.lt_irrefl _ h
  · omega
theorem above_asymm {x y : Ent} (h : aboveE x y = true) : aboveE y x = false := by
  rw [Bool.eq_false_iff]
  intro k
  rw [above_iff] at h k
  unfold AboveP at h k
  rcases h with h | ⟨e1, h | ⟨e2, h | ⟨e3, h⟩⟩⟩ <;> rcases k with k | ⟨f1, k | ⟨f2, k | ⟨f3, k⟩⟩⟩ <;> first | omega | exact List.lt_irrefl _ (List.lt_trans h k) | exact List.lt_irrefl _ (e3 ▸ k) | exact List.lt_irrefl _ (f3 ▸ h)
theorem above_trans {x y z : Ent} (h : aboveE x y = true) (k : aboveE y z = true) : aboveE x z = true := by
  rw [above_iff] at h k ⊢
  unfold AboveP at h k ⊢
  rcases h with h | ⟨e1, h | ⟨e2, h | ⟨e3, h⟩⟩⟩ <;> rcases k with k | ⟨f1, k | ⟨f2, k | ⟨f3, k⟩⟩⟩
  all_goals first | (left; omega) | (right; refine ⟨by omega, ?_⟩; first | (left; omega) | (right; refine ⟨by omega, ?_⟩; first | (left; exact List.lt_trans k h) | (left; exact f3 ▸ h) | (left; exact e3 ▸ k) | (right; exact ⟨e3.trans f3, by omega⟩)))
theorem ent_ext {x y : Ent} (h0 : x.k = y.k) (h1 : x.t = y.t) (h2 : x.o = y.o) (h3 : x.v = y.v) (h4 : x.u = y.u) : x = y := by
  obtain ⟨kx, tx, ox, vx, ux⟩ := x
  obtain ⟨ky, ty, oy, vy, uy⟩ := y
  dsimp only at h0 h1 h2 h3 h4
  subst h0 h1 h2 h3 h4; rfl
theorem bytes_ext {a b : ByteArray} (h : a.data.toList = b.data.toList) : a = b := by
  obtain ⟨⟨x⟩⟩ := a
  obtain ⟨⟨y⟩⟩ := b
  have : x = y := h
  rw [this]
theorem above_tri {x y : Ent} (h0 : x.k = y.k) (h : aboveE x y = false) (k : aboveE y x = false) : x = y := by
  rw [Bool.eq_false_iff, Ne, above_iff] at h k
  unfold AboveP at h k
  have t1 : x.t = y.t := by
    by_cases a : y.t < x.t
    · exact absurd (.inl a) h
    · by_cases b : x.t < y.t
      · exact absurd (.inl b) k
      · omega
  have t2 : x.o = y.o := by
    by_cases a : y.o < x.o
    · exact absurd (.inr ⟨t1, .inl a⟩) h
    · by_cases b : x.o < y.o
      · exact absurd (.inr ⟨t1.symm, .inl b⟩) k
      · omega
  have t3 : x.vl = y.vl := triE (fun b => k (.inr ⟨t1.symm, .inr ⟨t2.symm, .inl b⟩⟩)) (fun a => h (.inr ⟨t1, .inr ⟨t2, .inl a⟩⟩))
  have t4 : x.u = y.u := by
    by_cases a : y.u < x.u
    · exact absurd (.inr ⟨t1, .inr ⟨t2, .inr ⟨t3, a⟩⟩⟩) h
    · by_cases b : x.u < y.u
      · exact absurd (.inr ⟨t1.symm, .inr ⟨t2.symm, .inr ⟨t3.symm, b⟩⟩⟩) k
      · omega
  exact ent_ext h0 t1 t2 (bytes_ext (show x.v.data.toList = y.v.data.toList from t3)) t4

set_option maxHeartbeats 4000000 in
set_option maxRecDepth 20000 in
theorem eRefAbove_any (x y : Ent) (W : World) : Calls Try.prog 32 #[.agg #[.string x.k, .int .i64 x.t, .int .u16 x.o, .string x.v, .int .i64 x.u], .agg #[.string y.k, .int .i64 y.t, .int .u16 y.o, .string y.v, .int .i64 y.u]] W fun e w' => e = .returned (.bool (aboveE x y)) ∧ Below W.heap.size W w' := by
  have d1 := ((Below.refl _ W).alloc (Nat.le_refl _) (.cells #[.string x.k, .int .i64 x.t, .int .u16 x.o, .string x.v, .int .i64 x.u] 36)).alloc (by simp) (.cells #[.string y.k, .int .i64 y.t, .int .u16 y.o, .string y.v, .int .i64 y.u] 36)
  have HD := Lib.hid d1
  clear d1
  have HA := Lib.hid (above_iff x y)
  generalize aboveE x y = R at *
  by_cases h1 : x.t = y.t
  · have g1 : (x.t != y.t) = false := by simpa using h1
    by_cases h2 : x.o = y.o
    · have g2 : (x.o != y.o) = false := by simpa using h2
      by_cases h3 : x.v = y.v
      · have HE : Hid (R = decide (y.u < x.u)) := Lib.hid (by
          rw [Bool.eq_iff_iff, HA.out, decide_eq_true_eq]
          unfold AboveP
          have a3 : x.vl = y.vl := by show x.v.data.toList = y.v.data.toList; rw [h3]
          have a4 : ¬ y.vl < x.vl := by rw [a3]; exact List.lt_irrefl _
          rw [a3] at a4 ⊢
          simp [h1, h2, a4, Int.lt_irrefl])
        have g3 : (x.v.toList == y.v.toList) = true := by simp [h3]
        clear HA h1 h2 h3
        go_enter Try.func32, Try.ntmps32
        go_wp2
        go_ret
        exact ⟨by rw [HE.out]; rfl, HD.out⟩
      · have HE : Hid (R = !(Op.bytesLess x.v.toList y.v.toList)) := Lib.hid (by
          have a3 : x.vl ≠ y.vl := fun e => h3 (bytes_ext e)
          have e1 : x.v.toList = x.vl := ByteArray.toList_eq _
          have e2 : y.v.toList = y.vl := ByteArray.toList_eq _
          rw [Bool.eq_iff_iff, HA.out, e1, e2, lessE]
          unfold AboveP
          generalize x.vl = vx at *
          generalize y.vl = vy at *
          rw [Bool.not_eq_true', decide_eq_false_iff_not]
          constructor
          · rintro (h | ⟨-, h | ⟨-, h | ⟨h, -⟩⟩⟩)
            · omega
            · omega
            · exact fun k => List.lt_irrefl _ (List.lt_trans h k)
            · exact absurd h a3
          · intro h
            exact .inr ⟨h1, .inr ⟨h2, .inl (by
              by_cases k : vy < vx
              · exact k
              · exact absurd (triE h k) a3)⟩⟩)
        have g3 : (x.v.toList == y.v.toList) = false := by rw [beq_eq_false_iff_ne]; exact fun e => h3 (bytes_ext (by rw [← ByteArray.toList_eq, ← ByteArray.toList_eq]; exact e))
        clear HA h1 h2 h3
        go_enter Try.func32, Try.ntmps32
        go_wp2
        go_ret
        exact ⟨by rw [HE.out]; rfl, HD.out⟩
    · have g2 : (x.o != y.o) = true := by simpa using h2
      have HE : Hid (R = decide (y.o < x.o)) := Lib.hid (by
        rw [Bool.eq_iff_iff, HA.out, decide_eq_true_eq]
        unfold AboveP
        simp [h1, h2])
      clear HA h1 h2
      go_enter Try.func32, Try.ntmps32
      go_wp2
      go_ret
      exact ⟨by rw [HE.out]; rfl, HD.out⟩
  · have g1 : (x.t != y.t) = true := by simpa using h1
    have HE : Hid (R = decide (y.t < x.t)) := Lib.hid (by
      rw [Bool.eq_iff_iff, HA.out, decide_eq_true_eq]
      unfold AboveP
      simp [h1])
    clear HA h1
    go_enter Try.func32, Try.ntmps32
    go_wp2
    go_ret
    exact ⟨by rw [HE.out]; rfl, HD.out⟩

/-- Whether two entries are one. -/
def eqEn (x y : Ent) : Bool := x.k.toList == y.k.toList && (x.t == y.t && (x.o == y.o && (x.v.toList == y.v.toList && x.u == y.u)))
theorem eqEn_iff (x y : Ent) : eqEn x y = true ↔ x = y := by
  unfold eqEn
  rw [Bool.and_eq_true, Bool.and_eq_true, Bool.and_eq_true, Bool.and_eq_true, beq_iff_eq, beq_iff_eq, beq_iff_eq, beq_iff_eq, beq_iff_eq]
  constructor
  · rintro ⟨h0, h1, h2, h3, h4⟩
    rw [ByteArray.toList_eq, ByteArray.toList_eq] at h0 h3
    exact ent_ext (bytes_ext h0) h1 h2 (bytes_ext h3) h4
  · rintro rfl; exact ⟨rfl, rfl, rfl, rfl, rfl⟩
theorem eqEn_refl (x : Ent) : eqEn x x = true := (eqEn_iff x x).2 rfl
theorem eqEn_no {x y : Ent} (h : x ≠ y) : eqEn x y = false := by
  rw [Bool.eq_false_iff]; exact fun e => h ((eqEn_iff x y).1 e)
set_option maxRecDepth 20000 in
theorem run_eqE (x y : Ent) (w : World) : (binOp .eql 36 (.agg #[.string x.k, .int .i64 x.t, .int .u16 x.o, .string x.v, .int .i64 x.u]) (.agg #[.string y.k, .int .i64 y.t, .int .u16 y.o, .string y.v, .int .i64 y.u])).run Try.prog w = .ok (.bool (eqEn x y)) w := by
  unfold eqEn
  cases h0 : x.k.toList == y.k.toList <;> cases h1 : x.t == y.t <;> cases h2 : x.o == y.o <;> cases h3 : x.v.toList == y.v.toList <;> go_simp <;> (by_cases hu : x.u = y.u <;> simp [hu])
set_option maxRecDepth 20000 in
theorem run_neE (x y : Ent) (w : World) : (binOp .neq 36 (.agg #[.string x.k, .int .i64 x.t, .int .u16 x.o, .string x.v, .int .i64 x.u]) (.agg #[.string y.k, .int .i64 y.t, .int .u16 y.o, .string y.v, .int .i64 y.u])).run Try.prog w = .ok (.bool (!eqEn x y)) w := by
  unfold eqEn
  cases h0 : x.k.toList == y.k.toList <;> cases h1 : x.t == y.t <;> cases h2 : x.o == y.o <;> cases h3 : x.v.toList == y.v.toList <;> go_simp <;> (by_cases hu : x.u = y.u <;> simp [hu])

set_option maxHeartbeats 4000000 in
set_option maxRecDepth 20000 in
theorem eRefCheck_any (x : Ent) (W : World) : Calls Try.prog 35 #[.agg #[.string x.k, .int .i64 x.t, .int .u16 x.o, .string x.v, .int .i64 x.u]] W fun e w' => e = .returned (.int .i64 (checkEn x)) ∧ Below W.heap.size W w' := by
  have d1 := (Below.refl _ W).alloc (Nat.le_refl _) (.cells #[.string x.k, .int .i64 x.t, .int .u16 x.o, .string x.v, .int .i64 x.u] 36)
  have HD := Lib.hid d1
  clear d1
  by_cases h0 : x.k.size = 0
  · have g0 : (x.k.toList == ([] : List UInt8)) = true := by rw [(toList_nil _).2 h0]; rfl
    have g0i : ((x.k.size : Int) < 1) := by omega
    have HE : Hid (checkEn x = 5) := Lib.hid (by unfold checkEn; rw [if_pos (by omega)])
    generalize checkEn x = R at *
    go_enter Try.func35, Try.ntmps35
    go_wp2
    go_ret
    exact ⟨by rw [HE.out]; rfl, HD.out⟩
  · have g0 : (x.k.toList == ([] : List UInt8)) = false := by rw [beq_eq_false_iff_ne]; exact fun e => h0 ((toList_nil _).1 e)
    have g0i : ¬ ((x.k.size : Int) < 1) := by omega
    by_cases h1 : 1024 < x.k.size
    · have g1 : ((1024 : Int) < (x.k.size : Int)) := by omega
      have HE : Hid (checkEn x = 5) := Lib.hid (by unfold checkEn; rw [if_pos (by omega)])
      generalize checkEn x = R at *
      go_enter Try.func35, Try.ntmps35
      go_wp2
      go_ret
      exact ⟨by rw [HE.out]; rfl, HD.out⟩
    · have g1 : ¬ ((1024 : Int) < (x.k.size : Int)) := by omega
      by_cases h2 : 8192 < x.v.size
      · have g2 : ((8192 : Int) < (x.v.size : Int)) := by omega
        have HE : Hid (checkEn x = 5) := Lib.hid (by unfold checkEn; rw [if_pos (by omega)])
        generalize checkEn x = R at *
        go_enter Try.func35, Try.ntmps35
        go_wp2
        go_ret
        exact ⟨by rw [HE.out]; rfl, HD.out⟩
      · have g2 : ¬ ((8192 : Int) < (x.v.size : Int)) := by omega
        by_cases h3 : x.t < 0
        · have HE : Hid (checkEn x = 13) := Lib.hid (by unfold checkEn; rw [if_neg (by omega), if_pos (by omega)])
          generalize checkEn x = R at *
          go_enter Try.func35, Try.ntmps35
          go_wp2
          go_ret
          exact ⟨by rw [HE.out]; rfl, HD.out⟩
        · by_cases h4 : 1099511627776 < x.t
          · have HE : Hid (checkEn x = 13) := Lib.hid (by unfold checkEn; rw [if_neg (by omega), if_pos (by omega)])
            generalize checkEn x = R at *
            go_enter Try.func35, Try.ntmps35
            go_wp2
            go_ret
            exact ⟨by rw [HE.out]; rfl, HD.out⟩
          · by_cases h5 : x.u < x.t
            · have HE : Hid (checkEn x = 13) := Lib.hid (by unfold checkEn; rw [if_neg (by omega), if_pos (by omega)])
              generalize checkEn x = R at *
              go_enter Try.func35, Try.ntmps35
              go_wp2
              go_ret
              exact ⟨by rw [HE.out]; rfl, HD.out⟩
            · by_cases h6 : 1099511627776 < x.u
              · have HE : Hid (checkEn x = 13) := Lib.hid (by unfold checkEn; rw [if_neg (by omega), if_pos (by omega)])
                generalize checkEn x = R at *
                go_enter Try.func35, Try.ntmps35
                go_wp2
                go_ret
                exact ⟨by rw [HE.out]; rfl, HD.out⟩
              · have HE : Hid (checkEn x = 0) := Lib.hid (by unfold checkEn; rw [if_neg (by omega), if_neg (by omega)])
                generalize checkEn x = R at *
                go_enter Try.func35, Try.ntmps35
                go_wp2
                go_ret
                exact ⟨by rw [HE.out]; rfl, HD.out⟩

end Go.Proofs.Ytkbonifbnbdbkab
