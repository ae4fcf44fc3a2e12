/-
  Get and Delta of the reference.
-/
import Derived.Test.YtkbonifbnbdbkabC20
import Derived.Deep.QuietTactic
import Derived.BigQuiet
namespace Go.Proofs.Ytkbonifbnbdbkab
open Go.RowKit Go.Maps

theorem find_first : ∀ (L : List Ent) (q : List UInt8) (k : Nat) (hk : k < L.length), (∀ j (hj : j < L.length), j < k → L[j].key ≠ q) → L[k].key = q → gotC L q = some L[k]
  | x :: l, q, 0, _, _, h => by
    have h' : x.key = q := h
    unfold gotC
    rw [List.find?_cons]
    simp [h']
  | x :: l, q, k + 1, hk, hn, h => by
    have h0 : x.key ≠ q := hn 0 (by simp) (by omega)
    have ih := find_first l q k (by simpa using hk) (fun j hj hjk => hn (j + 1) (by simpa using hj) (by omega)) h
    unfold gotC at ih ⊢
    rw [List.find?_cons]
    have h1 : (x.key == q) = false := beq_eq_false_iff_ne.2 h0
    rw [h1]
    exact ih
theorem find_none (L : List Ent) (q : List UInt8) (h : ∀ j (hj : j < L.length), L[j].key ≠ q) : gotC L q = none := by
  unfold gotC
  rw [List.find?_eq_none]
  intro x hx
  obtain ⟨j, hj, rfl⟩ := List.getElem_of_mem hx
  simpa using h j hj

set_option maxRecDepth 100000 in
set_option maxHeartbeats 4000000 in
theorem crGet_any (a : Option Addr) (c : Nat) (L : List Ent) (key : ByteArray) (w : World) (he : EntsAt w a L) (hl : L.length ≤ 1000000) (n : Nat) (hn : n = L.length) :
    Calls Try.prog 11 #[.agg #[.slice a n c], .string key] w fun e w' => e = .returned (.tuple #[.agg #[.string (getC L key.data.toList).k, .int .i64 (getC L key.data.toList).t, .int .u16 (getC L key.data.toList).o, .string (getC L key.data.toList).v, .int .i64 (getC L key.data.toList).u], .bool (gotC L key.data.toList).isSome]) ∧ Below w.heap.size w w' := by
  have d1 := (Below.refl w.heap.size w).alloc (Nat.le_refl _) (.cells #[.slice a n c] 30)
  have d2 := d1.alloc (by simp) (.cells #[.string ⟨#[]⟩, .int .i64 0, .int .u16 0, .string ⟨#[]⟩, .int .i64 0] 36)
  have f2 := (Below.refl (w.alloc (.cells #[.slice a n c] 30)).heap.size (w.alloc (.cells #[.slice a n c] 30))).alloc (Nat.le_refl _) (.cells #[.string ⟨#[]⟩, .int .i64 0, .int .u16 0, .string ⟨#[]⟩, .int .i64 0] 36)
  have b1 := (RmBlk.new w a n c).on f2
  have b2 := EBlk.new (w.alloc (.cells #[.slice a n c] 30)) zeroE
  have sz : (w.alloc (.cells #[.slice a n c] 30)).heap.size = w.heap.size + 1 := by simp
  rw [sz] at b2
  obtain ⟨w2, hw2⟩ : ∃ z, z = ((w.alloc (.cells #[.slice a n c] 30)).alloc (.cells #[.string ⟨#[]⟩, .int .i64 0, .int .u16 0, .string ⟨#[]⟩, .int .i64 0] 36)) := ⟨_, rfl⟩
  have b2' : EBlk w2 (w.heap.size + 1) zeroE := by rw [hw2]; exact b2
  rw [← hw2] at b1 d2
  have HS := Lib.hid (And.intro b1 (And.intro b2' (And.intro (he.on d2) d2)))
  have HN := Lib.hid hn
  have hn1 : n ≤ 1000000 := by omega
  have x0 := b1.c0
  have z0 := b2'.c0; have z1 := b2'.c1; have z2 := b2'.c2; have z3 := b2'.c3; have z4 := b2'.c4
  have g0 := b2'.f 0; have g1 := b2'.f 1; have g2 := b2'.f 2; have g3 := b2'.f 3; have g4 := b2'.f 4
  dsimp only [zeroE] at z0 z1 z2 z3 z4
  clear d1 d2 f2 b1 b2 b2' sz he hn hl
  subst hw2
  go_enter Try.func11, Try.ntmps11
  go_wp2
  generalize ((w.alloc (.cells #[.slice a n c] 30)).alloc (.cells #[.string ⟨#[]⟩, .int .i64 0, .int .u16 0, .string ⟨#[]⟩, .int .i64 0] 36)) = w2 at *
  go_loopw [6] (fun i wr => ∃ k : Nat, k ≤ n ∧ i = .int .i64 (k : Int) ∧ wr = w2 ∧ Hid (∀ j (hj : j < L.length), j < k → L[j].key ≠ key.data.toList)) (fun i _ => n - (intOf i).toNat)
  case atStart => exact ⟨0, Nat.zero_le _, rfl, rfl, Lib.hid (fun j hj h => absurd h (Nat.not_lt_zero _))⟩
  case round =>
    obtain ⟨k, hk, rfl, hwr, HF⟩ := hrel
    subst hwr
    by_cases hlt : k < n
    · have hkl : (k : Int) < (n : Int) := by omega
      have hkx : k < L.length := by have := HN.out; omega
      obtain ⟨b, o, rfl, d0, d1, d2, d3, d4⟩ := HS.out.2.2.1.row k hkx
      by_cases hq : L[k].key = key.data.toList
      · have hg := find_first L key.data.toList k hkx HF.out hq
        have HG : Hid (getC L key.data.toList = L[k] ∧ (gotC L key.data.toList).isSome = true) := Lib.hid ⟨by unfold getC; rw [hg], by rw [hg]; rfl⟩
        have hb : (L[k].k.toList == key.toList) = true := by
          have e : L[k].k = key := bytes_ext hq
          rw [e]; simp
        have HE := Lib.hid (And.intro (HS.out.2.1.store L[k]) (stE_below HS.out.2.2.2 (B := w.heap.size + 1) (by omega) L[k]))
        generalize L[k] = x at *
        clear hg hq hkx HF
        obtain ⟨kx, tx, ox, vx, ux⟩ := x
        unfold stE at HE
        dsimp only at d0 d1 d2 d3 d4 hb HE HG
        go_wp2
        obtain ⟨e1, q1⟩ := HE.out
        generalize (((((World.setCell wr ⟨w.heap.size + 1, 0, none⟩ (.string kx)).setCell ⟨w.heap.size + 1, 1, none⟩ (.int .i64 tx)).setCell ⟨w.heap.size + 1, 2, none⟩ (.int .u16 ox)).setCell ⟨w.heap.size + 1, 3, none⟩ (.string vx)).setCell ⟨w.heap.size + 1, 4, none⟩ (.int .i64 ux)) = w3 at *
        have y0 := e1.c0; have y1 := e1.c1; have y2 := e1.c2; have y3 := e1.c3; have y4 := e1.c4
        dsimp only at y0 y1 y2 y3 y4
        refine bodyPost_ret (v := .tuple #[.agg #[.string kx, .int .i64 tx, .int .u16 ox, .string vx, .int .i64 ux], .bool true]) (by simp [results, Try.results11, go_sem, y0, y1, y2, y3, y4]) rfl ?_
        exact ⟨by rw [HG.out.1, HG.out.2], q1⟩
      · have hb : (L[k].k.toList == key.toList) = false := by
          have e := @keyEq L[k] ⟨key, 0, 0, ⟨#[]⟩, 0⟩
          dsimp only at e
          rw [e]
          exact decide_eq_false hq
        have HF2 : Hid (∀ j (hj : j < L.length), j < k + 1 → L[j].key ≠ key.data.toList) := Lib.hid (fun j hj hjk => by
          by_cases e : j = k
          · subst e; exact hq
          · exact HF.out j hj (by omega))
        generalize L[k] = x at *
        clear hq HF hkx
        go_wp2
        go_roundw
        case rel => exact ⟨k + 1, by omega, by go_num, trivial, HF2⟩
        case measure => simp [intOf]; omega
    · have hkl : ¬ (k : Int) < (n : Int) := by omega
      have hg := find_none L key.data.toList (fun j hj => HF.out j hj (by have := HN.out; omega))
      have HG : Hid (getC L key.data.toList = zeroE ∧ (gotC L key.data.toList).isSome = false) := Lib.hid ⟨by unfold getC; rw [hg], by rw [hg]; rfl⟩
      have HE := Lib.hid (And.intro (HS.out.2.1.store zeroE) (stE_below HS.out.2.2.2 (B := w.heap.size + 1) (by omega) zeroE))
      unfold stE at HE
      dsimp only [zeroE] at HE HG
      clear hg HF
      go_wp2
      obtain ⟨e1, q1⟩ := HE.out
      generalize (((((World.setCell wr ⟨w.heap.size + 1, 0, none⟩ (.string ⟨#[]⟩)).setCell ⟨w.heap.size + 1, 1, none⟩ (.int .i64 0)).setCell ⟨w.heap.size + 1, 2, none⟩ (.int .u16 0)).setCell ⟨w.heap.size + 1, 3, none⟩ (.string ⟨#[]⟩)).setCell ⟨w.heap.size + 1, 4, none⟩ (.int .i64 0)) = w3 at *
      have y0 := e1.c0; have y1 := e1.c1; have y2 := e1.c2; have y3 := e1.c3; have y4 := e1.c4
      dsimp only at y0 y1 y2 y3 y4
      refine bodyPost_ret (v := .tuple #[.agg #[.string ⟨#[]⟩, .int .i64 0, .int .u16 0, .string ⟨#[]⟩, .int .i64 0], .bool false]) (by simp [results, Try.results11, go_sem, y0, y1, y2, y3, y4]) rfl ?_
      exact ⟨by rw [HG.out.1, HG.out.2], q1⟩

/-- Whether an entry is above all of its key in a list. -/
def overC (x : Ent) (l : List Ent) : Bool := l.all fun y => !(y.key == x.key) || aboveE x y
theorem overC_next (x : Ent) (l : List Ent) (j : Nat) (hj : j < l.length) : overC x (l.take (j + 1)) = (overC x (l.take j) && (!(l[j].key == x.key) || aboveE x l[j])) := by
  unfold overC
  rw [List.take_succ_eq_append_getElem hj, List.all_append]
  simp
theorem delta_step (S l : List Ent) (k : Nat) (hk : k < S.length) : deltaS (S.take (k + 1)) l = if overC S[k] l then deltaS (S.take k) l ++ [S[k]] else deltaS (S.take k) l := by
  unfold deltaS overC
  rw [List.take_succ_eq_append_getElem hk, List.filter_append]
  simp only [List.filter]
  split <;> simp_all
theorem delta_le (S l : List Ent) : (deltaS S l).length ≤ S.length := List.length_filter_le _ _

set_option maxRecDepth 100000 in
set_option maxHeartbeats 16000000 in
theorem crDelta_any (a : Option Addr) (c : Nat) (L : List Ent) (al : Option Addr) (cl : Nat) (l : List Ent) (w : World) (he : EntsAt w a L) (hel : EntsAt w al l) (hl : L.length ≤ 1000000) (n : Nat) (hn : n = L.length) (m : Nat) (hm : m = l.length) (hml : m ≤ 1000000) :
    Calls Try.prog 16 #[.agg #[.slice a n c], .slice al m cl] w fun e w' => ∃ v, e = .returned v ∧ OwnC w' w.heap.size v (deltaS L l) ∧ Below w.heap.size w w' := by
  have d1 := (Below.refl w.heap.size w).alloc (Nat.le_refl _) (.cells #[.slice a n c] 30)
  have b1 := RmBlk.new w a n c
  obtain ⟨w1, hw1⟩ : ∃ x, x = w.alloc (.cells #[.slice a n c] 30) := ⟨_, rfl⟩
  rw [← hw1] at d1 b1
  have HN := Lib.hid (And.intro hn hm)
  have hn1 : n ≤ 1000000 := by omega
  have HS := Lib.hid (And.intro (he.on d1) (And.intro (hel.on d1) (And.intro d1 b1)))
  clear hn hm hl he hel d1 b1
  subst hw1
  go_enter Try.func16, Try.ntmps16
  go_wp2
  have hsz : w.heap.size ≤ (w.alloc (.cells #[.slice a n c] 30)).heap.size := HS.out.2.2.1.size
  generalize w.alloc (.cells #[.slice a n c] 30) = w1 at *
  obtain ⟨i0, hi, hi0, hi1, hi2⟩ := info_parts infoEn
  go_loopw [5, 6] (fun v i wr => ∃ (k : Nat) (a5 : Option Addr) (n5 c5 : Nat), k ≤ n ∧ i = .int .i64 (k : Int) ∧ v = .slice a5 n5 c5 ∧ Hid (OwnC wr w1.heap.size (.slice a5 n5 c5) (deltaS (L.take k) l)) ∧ Hid (Below w1.heap.size w1 wr)) (fun _ i _ => n - (intOf i).toNat)
  case atStart => exact ⟨0, none, 0, 0, Nat.zero_le _, rfl, rfl, Lib.hid (World.ownsRow_nil _ _ _ _), Lib.hid (Below.refl _ _)⟩
  case round =>
    obtain ⟨k, a5, n5, c5, hk, rfl, rfl, HL, HB⟩ := hrel
    obtain ⟨x0, y0, q0, b0⟩ := HS.out
    have c0 := (b0.on HB.out).c0
    by_cases hlt : k < n
    · have hkl : (k : Int) < (n : Int) := by omega
      have hkx : k < L.length := by have := HN.out.1; omega
      obtain ⟨b, o, ea, hrow⟩ := x0.row k hkx
      have HT := Lib.hid (delta_step L l k hkx)
      have hMl : (deltaS (L.take k) l).length ≤ 1000000 := Nat.le_trans (delta_le _ _) (by rw [List.length_take]; omega)
      have HMl := Lib.hid hMl
      have HR := Lib.hid hrow
      generalize deltaS (L.take k) l = M at *
      generalize L[k] = x at *
      clear hrow hkx x0 y0 q0 b0 hMl
      subst ea
      obtain ⟨kx, tx, ox, vx, ux⟩ := x
      obtain ⟨wo, rfl⟩ : ∃ z, z = wr := ⟨_, rfl⟩
      go_wp2
      go_loopw [7, 8] (fun v7 v8 wr => ∃ (j : Nat) (ab : Bool), j ≤ m ∧ v7 = .bool ab ∧ v8 = .int .i64 (j : Int) ∧ Hid (ab = overC ⟨kx, tx, ox, vx, ux⟩ (l.take j)) ∧ Hid (Below wo.heap.size wo wr)) (fun _ v8 _ => m - (intOf v8).toNat)
      case atStart => exact ⟨0, true, Nat.zero_le _, rfl, rfl, Lib.hid rfl, Lib.hid (Below.refl _ _)⟩
      case round =>
        clear c0
        obtain ⟨j, ab, hj, rfl, rfl, HA, HI⟩ := hrel
        have hB1 : Below w1.heap.size w1 wr := HB.out.trans (HI.out.mono HB.out.size)
        by_cases hjl0 : j < m
        · have hjl : (j : Int) < (m : Int) := by omega
          have hjx : j < l.length := by have := HN.out.2; omega
          obtain ⟨bl, ol, el, hrl⟩ := HS.out.2.1.row j hjx
          have rL := hrl.on hB1
          have rX := HR.out.on hB1
          have rM := HS.out.2.2.2.on hB1
          have HAn := Lib.hid (overC_next ⟨kx, tx, ox, vx, ux⟩ l j hjx)
          rw [← HA.out] at HAn
          have HK := @keyEq l[j] ⟨kx, tx, ox, vx, ux⟩
          generalize l[j] = y at *
          clear hrl hjx HA
          subst el
          obtain ⟨ky, ty, oy, vy, uy⟩ := y
          dsimp only at HK
          have HAb : Hid (∀ u, Calls Try.prog 32 #[.agg #[.string kx, .int .i64 tx, .int .u16 ox, .string vx, .int .i64 ux], .agg #[.string ky, .int .i64 ty, .int .u16 oy, .string vy, .int .i64 uy]] u fun e w' => e = .returned (.bool (aboveE ⟨kx, tx, ox, vx, ux⟩ ⟨ky, ty, oy, vy, uy⟩)) ∧ Below u.heap.size u w') := Lib.hid (fun u => eRefAbove_any ⟨kx, tx, ox, vx, ux⟩ ⟨ky, ty, oy, vy, uy⟩ u)
          cases hq : decide ((⟨ky, ty, oy, vy, uy⟩ : Ent).key = (⟨kx, tx, ox, vx, ux⟩ : Ent).key) with
          | false =>
            rw [hq] at HK
            have hke : ((⟨ky, ty, oy, vy, uy⟩ : Ent).key == (⟨kx, tx, ox, vx, ux⟩ : Ent).key) = false := by simpa using hq
            have HA2 : Hid (ab = overC ⟨kx, tx, ox, vx, ux⟩ (l.take (j + 1))) := Lib.hid (by rw [HAn.out, hke]; simp)
            obtain ⟨d0, -⟩ := rL; obtain ⟨e0, -⟩ := rX; have r0 := rM.c0
            dsimp only at d0 e0
            clear hq hke HAn HAb hB1 rM
            go_wp2_with fail
            go_quiet (fail)
            clear d0 e0 r0 HK
            go_wp2
            go_roundw
            case rel => exact ⟨j + 1, ab, by omega, rfl, by go_num, HA2, Lib.hid (HI.out.trans (show Below _ wr (wr.drewN nq) from ⟨rfl, rfl, rfl, Nat.le_refl _, fun _ _ => rfl⟩))⟩
            case measure => simp [intOf]; omega
          | true =>
            rw [hq] at HK
            have hke : ((⟨ky, ty, oy, vy, uy⟩ : Ent).key == (⟨kx, tx, ox, vx, ux⟩ : Ent).key) = true := by simpa using hq
            have HA2 : Hid ((ab && aboveE ⟨kx, tx, ox, vx, ux⟩ ⟨ky, ty, oy, vy, uy⟩) = overC ⟨kx, tx, ox, vx, ux⟩ (l.take (j + 1))) := Lib.hid (by rw [HAn.out, hke]; simp)
            clear hq hke HAn hB1
            go_wp2_with fail
            refine wp_region_any (by kernel_rfl) ?_
            change wpAny _ _ _ _ _ _ _ (World.drew _)
            have hS : (fun w' : World => RowAt w' bl (ol + j * 5) ⟨ky, ty, oy, vy, uy⟩ ∧ RowAt w' b (o + k * 5) ⟨kx, tx, ox, vx, ux⟩ ∧ RmBlk w' w.heap.size (some ⟨b, o, none⟩) n c ∧ Below wr.heap.size wr w') wr.drew := ⟨rL, rX, rM, (Below.refl wr.heap.size wr).drew⟩
            refine wpAny_of_held (S := fun w' => RowAt w' bl (ol + j * 5) ⟨ky, ty, oy, vy, uy⟩ ∧ RowAt w' b (o + k * 5) ⟨kx, tx, ox, vx, ux⟩ ∧ RmBlk w' w.heap.size (some ⟨b, o, none⟩) n c ∧ Below wr.heap.size wr w') _ _ _ _ ?_
            clear rL rX rM
            refine wpAnyH_takeE (i := 0) (some 22) (v := ?_) rfl rfl (by as_aux_lemma => kernel_rfl) (by as_aux_lemma => kernel_rfl) (by as_aux_lemma => kernel_rfl) (fun _ _ _ h => h) (Or.inl ⟨by kernel_rfl, ?_⟩) hS ?_
            rotate_left
            · intro w hSw; obtain ⟨d0, d1, d2, d3, d4⟩ := hSw.1; obtain ⟨e0, e1, e2, e3, e4⟩ := hSw.2.1; have r0 := hSw.2.2.1.c0; dsimp only at d0 d1 d2 d3 d4 e0 e1 e2 e3 e4; go_simp
              first | done | with_reducible rfl
            refine wpAnyH_takeE (i := 1) (some 23) (v := ?_) rfl rfl (by as_aux_lemma => kernel_rfl) (by as_aux_lemma => kernel_rfl) (by as_aux_lemma => kernel_rfl) (fun _ _ _ h => h) (Or.inl ⟨by kernel_rfl, ?_⟩) hS ?_
            rotate_left
            · intro w hSw; obtain ⟨d0, d1, d2, d3, d4⟩ := hSw.1; obtain ⟨e0, e1, e2, e3, e4⟩ := hSw.2.1; have r0 := hSw.2.2.1.c0; dsimp only at d0 d1 d2 d3 d4 e0 e1 e2 e3 e4; go_simp
              first | done | with_reducible rfl
            refine wpAnyH_takeE (i := 2) (some 24) (v := ?_) rfl rfl (by as_aux_lemma => kernel_rfl) (by as_aux_lemma => kernel_rfl) (by as_aux_lemma => kernel_rfl) (fun _ _ _ h => h) (Or.inl ⟨by kernel_rfl, ?_⟩) hS ?_
            rotate_left
            · intro w hSw; obtain ⟨d0, d1, d2, d3, d4⟩ := hSw.1; obtain ⟨e0, e1, e2, e3, e4⟩ := hSw.2.1; have r0 := hSw.2.2.1.c0; dsimp only at d0 d1 d2 d3 d4 e0 e1 e2 e3 e4; go_simp
              first | done | with_reducible rfl
            refine wpAnyH_takeE (i := 3) (some 25) (v := ?_) rfl rfl (by as_aux_lemma => kernel_rfl) (by as_aux_lemma => kernel_rfl) (by as_aux_lemma => kernel_rfl) (fun _ _ _ h => h) (Or.inl ⟨by kernel_rfl, ?_⟩) hS ?_
            rotate_left
            · intro w hSw; obtain ⟨d0, d1, d2, d3, d4⟩ := hSw.1; obtain ⟨e0, e1, e2, e3, e4⟩ := hSw.2.1; have r0 := hSw.2.2.1.c0; dsimp only at d0 d1 d2 d3 d4 e0 e1 e2 e3 e4; go_simp
              first | done | with_reducible rfl
            refine wpAnyH_takeE (i := 4) (some 26) (v := ?_) rfl rfl (by as_aux_lemma => kernel_rfl) (by as_aux_lemma => kernel_rfl) (by as_aux_lemma => kernel_rfl) (fun _ _ _ h => h) (Or.inl ⟨by kernel_rfl, ?_⟩) hS ?_
            rotate_left
            · intro w hSw; obtain ⟨d0, d1, d2, d3, d4⟩ := hSw.1; obtain ⟨e0, e1, e2, e3, e4⟩ := hSw.2.1; have r0 := hSw.2.2.1.c0; dsimp only at d0 d1 d2 d3 d4 e0 e1 e2 e3 e4; go_simp
              first | done | with_reducible rfl
            refine wpAnyH_takeE (i := 5) (some 27) (v := ?_) rfl rfl (by as_aux_lemma => kernel_rfl) (by as_aux_lemma => kernel_rfl) (by as_aux_lemma => kernel_rfl) (fun _ _ _ h => h) (Or.inl ⟨by kernel_rfl, ?_⟩) hS ?_
            rotate_left
            · intro w hSw; obtain ⟨d0, d1, d2, d3, d4⟩ := hSw.1; obtain ⟨e0, e1, e2, e3, e4⟩ := hSw.2.1; have r0 := hSw.2.2.1.c0; dsimp only at d0 d1 d2 d3 d4 e0 e1 e2 e3 e4; go_simp
              first | done | with_reducible rfl
            refine wpAnyH_takeE (i := 6) (some 28) (v := ?_) rfl rfl (by as_aux_lemma => kernel_rfl) (by as_aux_lemma => kernel_rfl) (by as_aux_lemma => kernel_rfl) (fun _ _ _ h => h) (Or.inl ⟨by kernel_rfl, ?_⟩) hS ?_
            rotate_left
            · intro w hSw; obtain ⟨d0, d1, d2, d3, d4⟩ := hSw.1; obtain ⟨e0, e1, e2, e3, e4⟩ := hSw.2.1; have r0 := hSw.2.2.1.c0; dsimp only at d0 d1 d2 d3 d4 e0 e1 e2 e3 e4; go_simp
              first | done | with_reducible rfl
            refine wpAnyH_takeE (i := 7) (some 29) (v := ?_) rfl rfl (by as_aux_lemma => kernel_rfl) (by as_aux_lemma => kernel_rfl) (by as_aux_lemma => kernel_rfl) (fun _ _ _ h => h) (Or.inl ⟨by kernel_rfl, ?_⟩) hS ?_
            rotate_left
            · intro w hSw; obtain ⟨d0, d1, d2, d3, d4⟩ := hSw.1; obtain ⟨e0, e1, e2, e3, e4⟩ := hSw.2.1; have r0 := hSw.2.2.1.c0; dsimp only at d0 d1 d2 d3 d4 e0 e1 e2 e3 e4; go_simp
              first | done | with_reducible rfl
            refine wpAnyH_takeE (i := 8) (some 30) (v := ?_) rfl rfl (by as_aux_lemma => kernel_rfl) (by as_aux_lemma => kernel_rfl) (by as_aux_lemma => kernel_rfl) (fun _ _ _ h => h) (Or.inl ⟨by kernel_rfl, ?_⟩) hS ?_
            rotate_left
            · intro w hSw; obtain ⟨d0, d1, d2, d3, d4⟩ := hSw.1; obtain ⟨e0, e1, e2, e3, e4⟩ := hSw.2.1; have r0 := hSw.2.2.1.c0; dsimp only at d0 d1 d2 d3 d4 e0 e1 e2 e3 e4; go_simp
              first | done | with_reducible rfl
            refine wpAnyH_takeE (i := 9) (some 31) (v := ?_) rfl rfl (by as_aux_lemma => kernel_rfl) (by as_aux_lemma => kernel_rfl) (by as_aux_lemma => kernel_rfl) (fun _ _ _ h => h) (Or.inl ⟨by kernel_rfl, ?_⟩) hS ?_
            rotate_left
            · intro w hSw; obtain ⟨d0, d1, d2, d3, d4⟩ := hSw.1; obtain ⟨e0, e1, e2, e3, e4⟩ := hSw.2.1; have r0 := hSw.2.2.1.c0; dsimp only at d0 d1 d2 d3 d4 e0 e1 e2 e3 e4; go_simp
              first | done | with_reducible rfl
            refine wpAnyH_takeE (i := 10) (some 32) (v := ?_) rfl rfl (by as_aux_lemma => kernel_rfl) (by as_aux_lemma => kernel_rfl) (by as_aux_lemma => kernel_rfl) (fun _ _ _ h => h) (Or.inl ⟨by kernel_rfl, ?_⟩) hS ?_
            rotate_left
            · intro w hSw; obtain ⟨d0, d1, d2, d3, d4⟩ := hSw.1; obtain ⟨e0, e1, e2, e3, e4⟩ := hSw.2.1; have r0 := hSw.2.2.1.c0; dsimp only at d0 d1 d2 d3 d4 e0 e1 e2 e3 e4; go_simp
              first | done | with_reducible rfl
            refine wpAnyH_takeE (i := 11) (some 33) (v := ?_) rfl rfl (by as_aux_lemma => kernel_rfl) (by as_aux_lemma => kernel_rfl) (by as_aux_lemma => kernel_rfl) (fun _ _ _ h => h) (Or.inl ⟨by kernel_rfl, ?_⟩) hS ?_
            rotate_left
            · intro w hSw; obtain ⟨d0, d1, d2, d3, d4⟩ := hSw.1; obtain ⟨e0, e1, e2, e3, e4⟩ := hSw.2.1; have r0 := hSw.2.2.1.c0; dsimp only at d0 d1 d2 d3 d4 e0 e1 e2 e3 e4; go_simp
              first | done | with_reducible rfl
            refine wpAnyH_takeE (i := 12) (some 34) (v := ?_) rfl rfl (by as_aux_lemma => kernel_rfl) (by as_aux_lemma => kernel_rfl) (by as_aux_lemma => kernel_rfl) (fun _ _ _ h => h) (Or.inl ⟨by kernel_rfl, ?_⟩) hS ?_
            rotate_left
            · intro w hSw; obtain ⟨d0, d1, d2, d3, d4⟩ := hSw.1; obtain ⟨e0, e1, e2, e3, e4⟩ := hSw.2.1; have r0 := hSw.2.2.1.c0; dsimp only at d0 d1 d2 d3 d4 e0 e1 e2 e3 e4; go_simp
              first | done | with_reducible rfl
            refine wpAnyH_takeE (i := 13) (some 35) (v := ?_) rfl rfl (by as_aux_lemma => kernel_rfl) (by as_aux_lemma => kernel_rfl) (by as_aux_lemma => kernel_rfl) (fun _ _ _ h => h) (Or.inl ⟨by kernel_rfl, ?_⟩) hS ?_
            rotate_left
            · intro w hSw; obtain ⟨d0, d1, d2, d3, d4⟩ := hSw.1; obtain ⟨e0, e1, e2, e3, e4⟩ := hSw.2.1; have r0 := hSw.2.2.1.c0; dsimp only at d0 d1 d2 d3 d4 e0 e1 e2 e3 e4; go_simp
              first | done | with_reducible rfl
            refine wpAnyH_takeE (i := 14) (some 36) (v := ?_) rfl rfl (by as_aux_lemma => kernel_rfl) (by as_aux_lemma => kernel_rfl) (by as_aux_lemma => kernel_rfl) (fun _ _ _ h => h) (Or.inl ⟨by kernel_rfl, ?_⟩) hS ?_
            rotate_left
            · intro w hSw; obtain ⟨d0, d1, d2, d3, d4⟩ := hSw.1; obtain ⟨e0, e1, e2, e3, e4⟩ := hSw.2.1; have r0 := hSw.2.2.1.c0; dsimp only at d0 d1 d2 d3 d4 e0 e1 e2 e3 e4; go_simp
              first | done | with_reducible rfl
            refine wpAnyH_takeE (i := 15) (some 37) (v := ?_) rfl rfl (by as_aux_lemma => kernel_rfl) (by as_aux_lemma => kernel_rfl) (by as_aux_lemma => kernel_rfl) (fun _ _ _ h => h) (Or.inl ⟨by kernel_rfl, ?_⟩) hS ?_
            rotate_left
            · intro w hSw; obtain ⟨d0, d1, d2, d3, d4⟩ := hSw.1; obtain ⟨e0, e1, e2, e3, e4⟩ := hSw.2.1; have r0 := hSw.2.2.1.c0; dsimp only at d0 d1 d2 d3 d4 e0 e1 e2 e3 e4; go_simp
              first | done | with_reducible rfl
            refine wpAnyH_takeE (i := 16) (some 38) (v := ?_) rfl rfl (by as_aux_lemma => kernel_rfl) (by as_aux_lemma => kernel_rfl) (by as_aux_lemma => kernel_rfl) (fun _ _ _ h => h) (Or.inl ⟨by kernel_rfl, ?_⟩) hS ?_
            rotate_left
            · intro w hSw; obtain ⟨d0, d1, d2, d3, d4⟩ := hSw.1; obtain ⟨e0, e1, e2, e3, e4⟩ := hSw.2.1; have r0 := hSw.2.2.1.c0; dsimp only at d0 d1 d2 d3 d4 e0 e1 e2 e3 e4; go_simp
              first | done | with_reducible rfl
            refine wpAnyH_takeE (i := 17) (some 39) (v := ?_) rfl rfl (by as_aux_lemma => kernel_rfl) (by as_aux_lemma => kernel_rfl) (by as_aux_lemma => kernel_rfl) (fun _ _ _ h => h) (Or.inl ⟨by kernel_rfl, ?_⟩) hS ?_
            rotate_left
            · intro w hSw; obtain ⟨d0, d1, d2, d3, d4⟩ := hSw.1; obtain ⟨e0, e1, e2, e3, e4⟩ := hSw.2.1; have r0 := hSw.2.2.1.c0; dsimp only at d0 d1 d2 d3 d4 e0 e1 e2 e3 e4; go_simp
              first | done | with_reducible rfl
            refine wpAnyH_takeE (i := 18) (some 40) (v := ?_) rfl rfl (by as_aux_lemma => kernel_rfl) (by as_aux_lemma => kernel_rfl) (by as_aux_lemma => kernel_rfl) (fun _ _ _ h => h) (Or.inl ⟨by kernel_rfl, ?_⟩) hS ?_
            rotate_left
            · intro w hSw; obtain ⟨d0, d1, d2, d3, d4⟩ := hSw.1; obtain ⟨e0, e1, e2, e3, e4⟩ := hSw.2.1; have r0 := hSw.2.2.1.c0; dsimp only at d0 d1 d2 d3 d4 e0 e1 e2 e3 e4; go_simp
              first | done | with_reducible rfl
            refine wpAnyH_takeE (i := 19) (some 41) (v := ?_) rfl rfl (by as_aux_lemma => kernel_rfl) (by as_aux_lemma => kernel_rfl) (by as_aux_lemma => kernel_rfl) (fun _ _ _ h => h) (Or.inl ⟨by kernel_rfl, ?_⟩) hS ?_
            rotate_left
            · intro w hSw; obtain ⟨d0, d1, d2, d3, d4⟩ := hSw.1; obtain ⟨e0, e1, e2, e3, e4⟩ := hSw.2.1; have r0 := hSw.2.2.1.c0; dsimp only at d0 d1 d2 d3 d4 e0 e1 e2 e3 e4; go_simp
              first | done | with_reducible rfl
            refine wpAnyH_takeE (i := 20) (some 42) (v := ?_) rfl rfl (by as_aux_lemma => kernel_rfl) (by as_aux_lemma => kernel_rfl) (by as_aux_lemma => kernel_rfl) (fun _ _ _ h => h) (Or.inl ⟨by kernel_rfl, ?_⟩) hS ?_
            rotate_left
            · intro w hSw; obtain ⟨d0, d1, d2, d3, d4⟩ := hSw.1; obtain ⟨e0, e1, e2, e3, e4⟩ := hSw.2.1; have r0 := hSw.2.2.1.c0; dsimp only at d0 d1 d2 d3 d4 e0 e1 e2 e3 e4; go_simp
              first | done | with_reducible rfl
            refine wpAnyH_takeE (i := 21) (some 43) (v := ?_) rfl rfl (by as_aux_lemma => kernel_rfl) (by as_aux_lemma => kernel_rfl) (by as_aux_lemma => kernel_rfl) (fun _ _ _ h => h) (Or.inl ⟨by kernel_rfl, ?_⟩) hS ?_
            rotate_left
            · intro w hSw; obtain ⟨d0, d1, d2, d3, d4⟩ := hSw.1; obtain ⟨e0, e1, e2, e3, e4⟩ := hSw.2.1; have r0 := hSw.2.2.1.c0; dsimp only at d0 d1 d2 d3 d4 e0 e1 e2 e3 e4; go_simp
              first | done | with_reducible rfl
            refine wpAnyH_ready (rs := [22]) (by as_aux_lemma => kernel_rfl) (by simp) ?_
            refine AllReadyH.cons rfl (fun K hK => ?_) AllReadyH.nil
            go_simp
            go_wp2_with (go_at_call 32; refine (HAb.out _).mono ?_; rintro e u ⟨rfl, q⟩)
            refine hK.out _ _ ?_ (fun hS => ?_)
            · exact ⟨hS.1.on q, hS.2.1.on q, hS.2.2.1.on q, hS.2.2.2.trans (q.mono hS.2.2.2.size)⟩
            clear hK K
            clear q
            refine wpAnyH_takeE (i := 23) (some 45) (v := ?_) rfl rfl (by as_aux_lemma => kernel_rfl) (by as_aux_lemma => kernel_rfl) (by as_aux_lemma => kernel_rfl) (fun _ _ _ h => h) (Or.inl ⟨by kernel_rfl, ?_⟩) hS ?_
            rotate_left
            · intro w hSw; skip; go_simp
              first | done | with_reducible rfl
            refine wpAnyH_takeE (i := 24) (some 46) (v := ?_) rfl rfl (by as_aux_lemma => kernel_rfl) (by as_aux_lemma => kernel_rfl) (by as_aux_lemma => kernel_rfl) (fun _ _ _ h => h) (Or.inl ⟨by kernel_rfl, ?_⟩) hS ?_
            rotate_left
            · intro w hSw; skip; go_simp
              first | done | with_reducible rfl
            have HQ := Lib.hid hS.2.2.2
            refine wpAnyH_done (by kernel_rfl) ?_ _
            clear hS HK HAb
            generalize aboveE ⟨kx, tx, ox, vx, ux⟩ ⟨ky, ty, oy, vy, uy⟩ = av at *
            go_simp
            cases av with
            | true =>
              go_wp2
              go_roundw
              case rel => exact ⟨j + 1, ab, by omega, rfl, by go_num, Lib.hid (by rw [← HA2.out]; simp), Lib.hid (HI.out.trans (HQ.out.mono HI.out.size))⟩
              case measure => simp [intOf]; omega
            | false =>
              go_wp2
              go_roundw
              case rel => exact ⟨j + 1, false, by omega, rfl, by go_num, Lib.hid (by rw [← HA2.out]; simp), Lib.hid (HI.out.trans (HQ.out.mono HI.out.size))⟩
              case measure => simp [intOf]; omega
        · have hjl : ¬ (j : Int) < (m : Int) := by omega
          have hA := HA.out
          rw [List.take_of_length_le (by have := HN.out.2; omega)] at hA
          obtain ⟨d0, d1, d2, d3, d4⟩ := HR.out.on hB1
          have c1 := (HS.out.2.2.2.on hB1).c0
          dsimp only at d0 d1 d2 d3 d4
          have hown3 : OwnC wr w1.heap.size (.slice a5 n5 c5) M := HL.out.on HI.out
          have HBi := Lib.hid hB1
          have hMl := HMl.out
          have hwK := hB1.size
          rw [← hA] at HT
          clear hA HA HI hB1 HL HB
          cases ab with
          | true =>
            rw [if_pos rfl] at HT
            go_wp2_with (at_builtin; refine wpList_append_own _ rfl _ _ 22 rfl w1.heap.size 36 i0 _ 5 56 Try.underlying22 hi hi0 hi1 hi2 rfl (by decide) _ _ _ rfl (World.ownsRow.alloc hown3 _) ⟨_, 0, none⟩ 1 1 [.string kx, .int .i64 tx, .int .u16 ox, .string vx, .int .i64 ux] rfl rfl (World.news_of_block (cs := #[.string kx, .int .i64 tx, .int .u16 ox, .string vx, .int .i64 ux]) (newE _ _)) (by intro u' hu'; simp at hu'; rcases hu' with rfl | rfl | rfl | rfl | rfl <;> rfl) (by unfold maxLen; omega) (by omega) (by simp; omega) ?_; refine Hid.out ?_)
            refine Lib.hid ?_
            intro v5 w5 hown5 hg5 _
            have hA5 : OwnC w5 w1.heap.size v5 (deltaS (L.take (k + 1)) l) := by rw [HT.out]; exact OwnC.push hown5
            obtain ⟨a6, c6, rfl, -, -, -⟩ := hA5.form
            have HB5 : Hid (Below w1.heap.size w1 w5) := Lib.hid ((HBi.out.alloc HBi.out.size _).grown hg5 (by simp; omega) (fun j hj => (World.ownsRow.lt hown3 j hj).1))
            have HL5 := Lib.hid hA5
            clear hA5 hown5 hg5 hown3 hwK HBi d0 d1 d2 d3 d4 c1 HT
            generalize (deltaS (L.take (k + 1)) l).length = n6 at *
            go_wp2
            go_roundw
            case rel => exact ⟨k + 1, _, _, _, by omega, by go_num, rfl, HL5, HB5⟩
            case measure => simp [intOf]; omega
          | false =>
            rw [if_neg (by simp)] at HT
            have HL5 : Hid (OwnC wr w1.heap.size (.slice a5 n5 c5) (deltaS (L.take (k + 1)) l)) := Lib.hid (by rw [HT.out]; exact hown3)
            clear hown3 hwK HT
            go_wp2
            go_roundw
            case rel => exact ⟨k + 1, _, _, _, by omega, by go_num, rfl, HL5, HBi⟩
            case measure => simp [intOf]; omega
    · have hkl : ¬ (k : Int) < (n : Int) := by omega
      have hA := HL.out
      rw [List.take_of_length_le (by have := HN.out.1; omega)] at hA
      have HO := Lib.hid (And.intro (hA.base (B' := w.heap.size) hsz) (q0.trans (HB.out.mono q0.size)))
      clear hA x0 y0 q0 b0 HL HB
      go_wp2
      go_ret
      exact ⟨_, rfl, HO.out.1, HO.out.2⟩

end Go.Proofs.Ytkbonifbnbdbkab
