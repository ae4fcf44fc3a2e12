/-
  The walk of ProbeOthers.
-/
import Derived.Test.YtnoconampcemoaaO18
namespace Go.Proofs.Ytnoconampcemoaa
open Go Go.RowKit

/-- What the loop holds. -/
def OthSt (W w : World) (B b d : Nat) (s : Nat) (now : Int) (i : Nat) : Prop :=
  ∃ P T R U a n c x y z, WSt W w B b d P T R U now a n c x y z ∧ P.s = s ∧ T.s = s ∧ 0 ≤ now ∧ now ≤ 64 * (i : Int) ∧ SelfOk P
theorem ackO_same (P : Pb) (q s : Int) : (ackP P q s).s = P.s ∧ (ackP P q s).qs = P.qs ∧ (SelfOk P → SelfOk (ackP P q s)) := by
  unfold ackP
  split
  · exact ⟨rfl, rfl, fun _ h => by cases h⟩
  · exact ⟨rfl, rfl, id⟩
theorem watchO_self {P : Pb} (h : SelfOk P) (m : Mem) (now : Int) : SelfOk (watchP P m now) := by
  obtain ⟨h1, -, h3, h4⟩ := watchP_same P m now
  intro hq
  rw [h3] at hq
  rw [h4, h1]
  exact h hq
theorem wrapEq17 (x : Int) : IntKind.i64.wrap x = wrap64 x := by rw [IntKind.wrap_i64]; unfold wrap64; omega
theorem byO_facts (y : Nat) (now : Int) (i : Nat) (h0 : 0 ≤ now) (h1 : now ≤ 64 * (i : Int)) (hi : i ≤ 200) : ((y : Int)).tmod 64 = ((y % 64 : Nat) : Int) ∧ (y : Int) % 64 = ((y % 64 : Nat) : Int) ∧ wrap64 ((y % 64 : Nat) : Int) = ((y % 64 : Nat) : Int) ∧
    wrap64 (now + ((y % 64 : Nat) : Int)) = now + ((y % 64 : Nat) : Int) ∧ (0 ≤ now + ((y % 64 : Nat) : Int) ∧ now + ((y % 64 : Nat) : Int) ≤ 64 * ((i + 1 : Nat) : Int)) := by
  have h2 : y % 64 < 64 := Nat.mod_lt _ (by decide)
  refine ⟨by rw [Int.tmod_eq_emod_of_nonneg (by omega)]; omega, by omega, ?_, ?_, by omega⟩
  · unfold wrap64; omega
  · unfold wrap64; omega
theorem giveP_ts (P : Pb) (T : Tb) (now : Int) : (giveP P T now).T.s = T.s := by
  unfold giveP
  split
  · rfl
  · exact hearB_s _ _
theorem nextP_ts (P : Pb) (T : Tb) (now : Int) (q : Nat) : (nextP P T now q).T.s = T.s := by
  unfold nextP
  split
  · unfold askP
    split <;> rfl
  · rfl
theorem tick_ts (P : Pb) (T : Tb) (now : Int) (q : Nat) : (tickAny P T now q).T.s = T.s := by
  unfold tickAny
  split
  case isFalse => rfl
  unfold tickP
  simp only
  rw [nextP_ts]
  have h : (openP (buryP P T now) (mergeB T (goneL P T now)) now q).T.s = (mergeB T (goneL P T now)).s := by
    unfold openP
    split
    · rfl
    · split
      · exact giveP_ts _ _ _
      · split <;> rfl
  rw [h, mergeB_s]
theorem there_get {T : Tb} (h : TbOk T) {x : Int} (hx : x ∈ thereB T) : ∃ (k : Nat) (m : Mem), x = (k : Int) ∧ getR T k = (m, true) ∧ m.s ≠ 2 := by
  unfold thereB thereL at hx
  obtain ⟨m, hm, rfl⟩ := List.mem_map.1 hx
  obtain ⟨h1, h2⟩ := List.mem_filter.1 hm
  have hf := (mem_memsB h).1 h1
  have hlt := h.lt hf
  have hk := (h.ok _ m hf).1
  refine ⟨m.n.toNat, m, hk, ?_, by simpa using h2⟩
  unfold getR atT
  rw [if_pos hlt, hf]
  rfl
theorem oth_round (i : Nat) (now : Int) (h3 : now ≤ 64 * (i : Int)) : now ≤ 64 * ((i + 1 : Nat) : Int) := by omega
/-- A packet in a block of its own. -/
def PkR (w : World) (B : Nat) (k f a : Int) : Prop := ∃ q, w.heap[B]? = some (.cells #[.int .u8 k, .int .u16 f, .int .u16 a, .int .i64 q, .slice none 0 0, .slice none 0 0] 66 (0, 0))
theorem PkR.on {w u : World} {B : Nat} {k f a : Int} (h : PkR w B k f a) (q : Below w.heap.size w u) : PkR u B k f a := by
  obtain ⟨z, h⟩ := h
  exact ⟨z, (q.block B (ltE h)).trans h⟩
theorem PkR.c0 {w : World} {B : Nat} {k f a : Int} (h : PkR w B k f a) : w.cell? ⟨B, 0, none⟩ = some (.int .u8 k) := by obtain ⟨z, h⟩ := h; exact cellE h
theorem PkR.c1 {w : World} {B : Nat} {k f a : Int} (h : PkR w B k f a) : w.cell? ⟨B, 1, none⟩ = some (.int .u16 f) := by obtain ⟨z, h⟩ := h; exact cellE h
theorem PkR.c2 {w : World} {B : Nat} {k f a : Int} (h : PkR w B k f a) : w.cell? ⟨B, 2, none⟩ = some (.int .u16 a) := by obtain ⟨z, h⟩ := h; exact cellE h
/-- The cells of what goes out. -/
structure OutRow (w : World) (g : Nat) (o : Ou) : Prop where
  c0 : w.cell? ⟨g, 0, none⟩ = some (.int .u16 o.to)
  c1 : w.cell? ⟨g, 1, none⟩ = some (.int .u8 o.kind)
  c2 : w.cell? ⟨g, 2, none⟩ = some (.int .u16 o.frm)
  c3 : w.cell? ⟨g, 3, none⟩ = some (.int .u16 o.about)
  c4 : w.cell? ⟨g, 4, none⟩ = some (.int .i64 o.seq)
  c5 : w.cell? ⟨g, 5, none⟩ = some (.slice none 0 0)
  c6 : w.cell? ⟨g, 6, none⟩ = some (.slice none 0 0)
theorem outRow_of {w : World} {B g n c : Nat} {o : Ou} (h : OutsAt w B (some ⟨g, 0, none⟩) n c [o]) : OutRow w g o := by
  rcases h with ⟨h, -⟩ | ⟨_, g', h1, h2, -, -, -, h6⟩
  · cases h
  · obtain rfl := (List.cons.inj h1).1
    obtain rfl : g = g' := congrArg Addr.block (Option.some.inj h2)
    exact ⟨cellE h6, cellE h6, cellE h6, cellE h6, cellE h6, cellE h6, cellE h6⟩
set_option maxRecDepth 100000 in
set_option maxHeartbeats 32000000 in
theorem others_walkP (p : Nat) (a0 : Option Addr) (c0 n : Nat) (l : List Ax) (W : World) (hM : AxsAt W a0 l) (hF : ∀ y ∈ l, AxFit y) (hn : n = l.length) :
    Calls Try.prog 7 #[.int .u16 (p : Int), .slice a0 n c0] W fun e w' => e = .returned (.bool true) ∧ Below W.heap.size W w' := by
  have HAw := Lib.hid (fun u => pbawake_any u)
  obtain ⟨s, hs⟩ : ∃ s : Nat, p % 64 = s := ⟨_, rfl⟩
  have hs64 : s < 64 := by omega
  have p1 : ((p : Int)).tmod 64 = (s : Int) := by rw [Int.tmod_eq_emod_of_nonneg (by omega)]; omega
  have p2 : (p : Int) % 64 = (s : Int) := by omega
  have HMd := Lib.hid (pbmade_ok s 10 3 W hs64 (by decide) (by decide))
  have HS64 := Lib.hid hs64
  clear hs hs64
  by_cases h200 : n ≤ 200
  case neg =>
    have hgt : (200 : Int) < (n : Int) := by omega
    clear hn
    go_enter Try.func7, Try.ntmps7
    go_wp2_with (go_at_call 9; refine HMd.out.mono ?_; rintro e w1 ⟨B, b, d, x, rfl, s1⟩; replace s1 := Lib.hid s1; refine Hid.out ?_)
    refine Lib.hid ?_
    have p0 := s1.out.blk.at.p0
    go_wp2_with (go_at_call 10; refine (HAw.out _).mono ?_; rintro e w2 ⟨rfl, q2⟩; replace q2 := Lib.hid q2; refine Hid.out ?_)
    refine Lib.hid ?_
    have HE := Lib.hid (s1.out.st.on q2.out).below
    go_wp2
    go_ret
    exact ⟨rfl, HE.out⟩
  have hgt : ¬ (200 : Int) < (n : Int) := by omega
  have HN := Lib.hid hn
  have HM := Lib.hid hM
  have HF := Lib.hid hF
  clear hn hM hF
  go_enter Try.func7, Try.ntmps7
  go_wp2_with (go_at_call 9; refine HMd.out.mono ?_; rintro e w1 ⟨B, b, d, x, rfl, s1⟩; replace s1 := Lib.hid s1; refine Hid.out ?_)
  refine Lib.hid ?_
  have p0 := s1.out.blk.at.p0
  have HS0 : Hid (OthSt W w1 B b d s 0 0) := Lib.hid ⟨_, _, _, _, _, _, _, _, _, _, s1.out, rfl, rfl, Int.le_refl _, by decide, fun h => by cases h⟩
  clear HMd s1
  go_wp2
  clear p0
  go_loopw [7] (fun x wr => ∃ (i : Nat) (now : Int), i ≤ n ∧ x = .int .i64 (i : Int) ∧ Hid (OthSt W wr B b d s now i)) (fun x _ => n - (intOf x).toNat)
  case atStart => exact ⟨0, 0, Nat.zero_le _, rfl, HS0⟩
  case round =>
    clear HS0
    obtain ⟨i, now, hi, rfl, HR⟩ := hrel
    by_cases hlt : i < n
    case neg =>
      have hkl : ¬ (i : Int) < (n : Int) := by omega
      have HB : Hid (Below W.heap.size W wr) := Lib.hid (by obtain ⟨P, T, R, U, a, n, c, x, y, z, h, -⟩ := HR.out; exact h.st.below)
      go_wp2_with (go_at_call 10; refine (HAw.out _).mono ?_; rintro e w2 ⟨rfl, q2⟩; replace q2 := Lib.hid q2; refine Hid.out ?_)
      refine Lib.hid ?_
      have HE := Lib.hid (HB.out.trans (q2.out.mono HB.out.size))
      go_wp2
      go_ret
      exact ⟨rfl, HE.out⟩
    have hkl : (i : Int) < (n : Int) := by omega
    have hkx : i < l.length := by have := HN.out; omega
    obtain ⟨ba, oa, rfl, hba, hrow⟩ := HM.out.row i hkx
    have hfit := HF.out l[i] (List.getElem_mem hkx)
    generalize l[i] = A at *
    clear hkx
    have HRow : Hid (∀ u, Below W.heap.size W u → AxRow u ba (oa + i * 7) A) := Lib.hid (fun u hu => hrow.below hu hba)
    have HFit := Lib.hid hfit
    clear hrow hfit
    obtain ⟨P, T, R, U, a, nn, c, x, y, z, hS, hps, hts, hn0, hn1, hself⟩ := HR.out
    have HS2 := Lib.hid hS
    have HX := Lib.hid (And.intro hps (And.intro hts (And.intro hn0 (And.intro hn1 hself))))
    have HV := Lib.hid (oth_round i now hn1)
    have p0 := hS.blk.at.p0
    obtain ⟨e0, e1, e2, e3, e4, e5, e6⟩ := HRow.out _ hS.st.below
    clear HR hS hps hts hn0 hn1 hself
    obtain ⟨kk, hkk⟩ : ∃ kk, A.k % 5 = kk := ⟨_, rfl⟩
    have hk5 : kk < 5 := by omega
    have k1 : ((A.k : Int)).tmod 5 = (kk : Int) := by rw [Int.tmod_eq_emod_of_nonneg (by omega)]; omega
    have k2 : (A.k : Int) % 5 = (kk : Int) := by omega
    have HKK := Lib.hid hkk
    clear hkk
    generalize hw2 : wr = w2 at *
    clear hw2

    by_cases hk1 : kk ≤ 1
    · have kgt : ¬ (1 : Int) < (kk : Int) := by omega
      go_wp2_with fail
      obtain ⟨kby, kby2, kby3, kby4, hT9⟩ := byO_facts A.y now i HX.out.2.2.1 HX.out.2.2.2.1 (Nat.le_trans (Nat.le_of_lt hlt) h200)
      have HT9 := Lib.hid hT9
      clear hT9
      obtain ⟨by64, hby⟩ : ∃ t : Int, ((A.y % 64 : Nat) : Int) = t := ⟨_, rfl⟩
      rw [hby] at kby kby2 kby3 kby4 HT9
      rw [← wrapEq17] at kby3 kby4
      have pn := HS2.out.blk.at.now
      have pf := HS2.out.blk.f
      have HBy : Hid (∀ u, w2.grownBy u (some B) → u.cell? ⟨ba, oa + i * 7 + 1, none⟩ = some (.int .u8 (A.y : Int))) := Lib.hid (fun u hu => hu.cell e1 (by have h1 := HS2.out.lB; simp; omega))
      refine wp_region_any (by kernel_rfl) ?_
      change wpAny _ _ _ _ _ _ _ (World.drew _)
      have hS : (fun w' : World => w2.grownBy w' (some B)) w2.drew := grownBy_drewN w2 1 _
      refine wpAny_of_held (S := fun w' => w2.grownBy w' (some B)) _ _ _ _ ?_
      refine wpAnyH_takeE (i := 0) (some 57) (v := ?_) rfl rfl (by as_aux_lemma => kernel_rfl) (by as_aux_lemma => kernel_rfl) (by as_aux_lemma => kernel_rfl) (fun _ _ _ h => h) (Or.inl ⟨by kernel_rfl, ?_⟩) hS ?_
      rotate_left
      · intro w hSw; have e1 := HBy.out _ hSw; go_simp
        first | done | with_reducible rfl
      refine wpAnyH_takeE (i := 1) (some 58) (v := ?_) rfl rfl (by as_aux_lemma => kernel_rfl) (by as_aux_lemma => kernel_rfl) (by as_aux_lemma => kernel_rfl) (fun _ _ _ h => h) (Or.inl ⟨by kernel_rfl, ?_⟩) hS ?_
      rotate_left
      · intro w hSw; have e1 := HBy.out _ hSw; go_simp
        first | done | with_reducible rfl
      refine wpAnyH_takeE (i := 2) (some 59) (v := ?_) rfl rfl (by as_aux_lemma => kernel_rfl) (by as_aux_lemma => kernel_rfl) (by as_aux_lemma => kernel_rfl) (fun _ _ _ h => h) (Or.inl ⟨by kernel_rfl, ?_⟩) hS ?_
      rotate_left
      · intro w hSw; have e1 := HBy.out _ hSw; go_simp
        first | done | with_reducible rfl
      refine wpAnyH_takeE (i := 4) (some 61) (v := ?_) rfl rfl (by as_aux_lemma => kernel_rfl) (by as_aux_lemma => kernel_rfl) (by as_aux_lemma => kernel_rfl) (fun _ _ _ h => h) (Or.inl ⟨by kernel_rfl, ?_⟩) hS ?_
      rotate_left
      · intro w hSw; have e1 := HBy.out _ hSw; go_simp
        first | done | with_reducible rfl
      (try simp only [Act.put, List.setIfInBounds_toArray, List.set_cons_zero, List.set_cons_succ])
      refine wpAnyH_takeE (i := 5) (some 62) (v := ?_) rfl rfl (by as_aux_lemma => kernel_rfl) (by as_aux_lemma => kernel_rfl) (by as_aux_lemma => kernel_rfl) (fun _ _ _ h => h) (Or.inl ⟨by kernel_rfl, ?_⟩) hS ?_
      rotate_left
      · intro w hSw; have e1 := HBy.out _ hSw; go_simp
        first | done | with_reducible rfl
      refine wpAnyH_takeE (i := 6) (some 63) (v := ?_) rfl rfl (by as_aux_lemma => kernel_rfl) (by as_aux_lemma => kernel_rfl) (by as_aux_lemma => kernel_rfl) (fun _ _ _ h => h) (Or.inl ⟨by kernel_rfl, ?_⟩) hS ?_
      rotate_left
      · intro w hSw; have e1 := HBy.out _ hSw; go_simp
        first | done | with_reducible rfl
      refine wpAnyH_takeE (i := 7) (some 64) (v := ?_) rfl rfl (by as_aux_lemma => kernel_rfl) (by as_aux_lemma => kernel_rfl) (by as_aux_lemma => kernel_rfl) (fun _ _ _ h => h) (Or.inl ⟨by kernel_rfl, ?_⟩) hS ?_
      rotate_left
      · intro w hSw; have e1 := HBy.out _ hSw; go_simp
        first | done | with_reducible rfl
      refine wpAnyH_takeE (i := 8) (some 65) (v := ?_) rfl rfl (by as_aux_lemma => kernel_rfl) (by as_aux_lemma => kernel_rfl) (by as_aux_lemma => kernel_rfl) (fun _ _ _ h => h) (Or.inl ⟨by kernel_rfl, ?_⟩) hS ?_
      rotate_left
      · intro w hSw; have e1 := HBy.out _ hSw; go_simp
        first | done | with_reducible rfl
      (try simp only [Act.put, List.setIfInBounds_toArray, List.set_cons_zero, List.set_cons_succ])
      refine wpAnyH_takeE (i := 9) (some 66) (v := ?_) rfl rfl (by as_aux_lemma => kernel_rfl) (by as_aux_lemma => kernel_rfl) (by as_aux_lemma => kernel_rfl) (fun _ _ _ h => h) (Or.inl ⟨by kernel_rfl, ?_⟩) hS ?_
      rotate_left
      · intro w hSw; have e1 := HBy.out _ hSw; go_simp
        first | done | with_reducible rfl
      refine wpAnyH_takeE (i := 10) (some 67) (v := ?_) rfl rfl (by as_aux_lemma => kernel_rfl) (by as_aux_lemma => kernel_rfl) (by as_aux_lemma => kernel_rfl) (fun _ _ _ h => h) (Or.inl ⟨by kernel_rfl, ?_⟩) hS ?_
      rotate_left
      · intro w hSw; have e1 := HBy.out _ hSw; go_simp
        first | done | with_reducible rfl
      refine wpAnyH_ready (rs := [3]) (by as_aux_lemma => kernel_rfl) (by simp) ?_
      refine AllReadyH.cons rfl (fun K hK => ?_) AllReadyH.nil
      go_simp
      refine hK.out _ _ hS (fun hS => ?_)
      clear hK K
      refine wpAnyH_takeE (i := 11) (some 68) (v := ?_) rfl rfl (by as_aux_lemma => kernel_rfl) (by as_aux_lemma => kernel_rfl) (by as_aux_lemma => kernel_rfl) (fun _ _ _ h => h) (Or.inl ⟨by kernel_rfl, ?_⟩) hS ?_
      rotate_left
      · intro w hSw; skip; go_simp
        first | done | with_reducible rfl
      refine wpAnyH_takeE (i := 12) (some 69) (v := ?_) rfl rfl (by as_aux_lemma => kernel_rfl) (by as_aux_lemma => kernel_rfl) (by as_aux_lemma => kernel_rfl) (fun _ _ _ h => h) (Or.inl ⟨by kernel_rfl, ?_⟩) hS ?_
      rotate_left
      · intro w hSw; skip; go_simp
        first | done | with_reducible rfl
      (try simp only [Act.put, List.setIfInBounds_toArray, List.set_cons_zero, List.set_cons_succ])
      refine wpAnyH_takeE (i := 13) (some 70) (v := ?_) rfl rfl (by as_aux_lemma => kernel_rfl) (by as_aux_lemma => kernel_rfl) (by as_aux_lemma => kernel_rfl) (fun _ _ _ h => h) (Or.inl ⟨by kernel_rfl, ?_⟩) hS ?_
      rotate_left
      · intro w hSw; skip; go_simp
        first | done | with_reducible rfl
      have hg3 : w2.grownBy ((w2.setCell ⟨B, 14, none⟩ (.int .i64 (now + by64))).drew) (some B) := (grownBy_setCell w2 B 14 _).trans (grownBy_drewN _ 1 _)
      have HS3 : Hid (WSt W ((w2.setCell ⟨B, 14, none⟩ (.int .i64 (now + by64))).drew) B b d P T R U (now + by64) a nn c x y z) := Lib.hid ((HS2.out.storeN _).on ((Below.refl _ _).drew))
      refine wpAnyH_ready (rs := [14]) (by as_aux_lemma => kernel_rfl) (by simp) ?_
      refine AllReadyH.cons rfl (fun K hK => ?_) AllReadyH.nil
      go_simp
      refine hK.out _ _ hg3 (fun hS => ?_)
      clear hK K pn pf hg3
      refine wpAnyH_done (by kernel_rfl) ?_ _
      (try simp only [Act.put, List.setIfInBounds_toArray, List.set_cons_zero, List.set_cons_succ])
      clear p0 e0 e1 e2 e3 e4 e5 e6 HS2 HBy hS kby kby2 kby3 kby4
      generalize (w2.setCell ⟨B, 14, none⟩ (.int .i64 (now + by64))).drew = w3 at *
      generalize now + by64 = now3 at *
      obtain ⟨e0, e1, e2, e3, e4, e5, e6⟩ := HRow.out _ HS3.out.st.below
      go_wp2_with fail
      have HTk := Lib.hid ((HS3.out.st.on ((Below.refl _ w3).drew)).tick now3 A.d HFit.out.d)
      have HC : Hid (∀ u, Grown2 w3 u b d → (u.cell? ⟨B, 0, none⟩ = some (.pointer (some ⟨b, 0, none⟩)) ∧ u.cell? ⟨B, 1, none⟩ = some (.pointer (some ⟨d, 0, none⟩)) ∧ u.cell? ⟨B, 14, none⟩ = some (.int .i64 now3)) ∧ u.cell? ⟨ba, oa + i * 7 + 2, none⟩ = some (.int .u32 (A.d : Int))) := Lib.hid (fun u g => by
        have h := (HS3.out.blk.of (g.block B HS3.out.blk.lt HS3.out.nb HS3.out.nd)).at
        exact ⟨⟨h.p0, h.p1, h.now⟩, (HRow.out _ (Below.grown2 HS3.out.st.below g HS3.out.st.below.size HS3.out.st.lb HS3.out.st.ld)).c2⟩)
      refine wp_region_any (by kernel_rfl) ?_
      change wpAny _ _ _ _ _ _ _ (World.drew _)
      have hS : (fun w' : World => Grown2 w3 w' b d) w3.drew := ⟨rfl, rfl, rfl, Nat.le_refl _, fun _ _ _ _ => rfl⟩
      refine wpAny_of_held (S := fun w' => Grown2 w3 w' b d) _ _ _ _ ?_
      refine wpAnyH_takeE (i := 0) (some 72) (v := ?_) rfl rfl (by as_aux_lemma => kernel_rfl) (by as_aux_lemma => kernel_rfl) (by as_aux_lemma => kernel_rfl) (fun _ _ _ h => h) (Or.inl ⟨by kernel_rfl, ?_⟩) hS ?_
      rotate_left
      · intro w hSw; obtain ⟨⟨p0, p1, pn⟩, e2⟩ := HC.out _ hSw; go_simp
        first | done | with_reducible rfl
      refine wpAnyH_takeE (i := 1) (some 73) (v := ?_) rfl rfl (by as_aux_lemma => kernel_rfl) (by as_aux_lemma => kernel_rfl) (by as_aux_lemma => kernel_rfl) (fun _ _ _ h => h) (Or.inl ⟨by kernel_rfl, ?_⟩) hS ?_
      rotate_left
      · intro w hSw; obtain ⟨⟨p0, p1, pn⟩, e2⟩ := HC.out _ hSw; go_simp
        first | done | with_reducible rfl
      refine wpAnyH_takeE (i := 2) (some 74) (v := ?_) rfl rfl (by as_aux_lemma => kernel_rfl) (by as_aux_lemma => kernel_rfl) (by as_aux_lemma => kernel_rfl) (fun _ _ _ h => h) (Or.inl ⟨by kernel_rfl, ?_⟩) hS ?_
      rotate_left
      · intro w hSw; obtain ⟨⟨p0, p1, pn⟩, e2⟩ := HC.out _ hSw; go_simp
        first | done | with_reducible rfl
      (try simp only [Act.put, List.setIfInBounds_toArray, List.set_cons_zero, List.set_cons_succ])
      refine wpAnyH_takeE (i := 3) (some 75) (v := ?_) rfl rfl (by as_aux_lemma => kernel_rfl) (by as_aux_lemma => kernel_rfl) (by as_aux_lemma => kernel_rfl) (fun _ _ _ h => h) (Or.inl ⟨by kernel_rfl, ?_⟩) hS ?_
      rotate_left
      · intro w hSw; obtain ⟨⟨p0, p1, pn⟩, e2⟩ := HC.out _ hSw; go_simp
        first | done | with_reducible rfl
      refine wpAnyH_takeE (i := 4) (some 76) (v := ?_) rfl rfl (by as_aux_lemma => kernel_rfl) (by as_aux_lemma => kernel_rfl) (by as_aux_lemma => kernel_rfl) (fun _ _ _ h => h) (Or.inl ⟨by kernel_rfl, ?_⟩) hS ?_
      rotate_left
      · intro w hSw; obtain ⟨⟨p0, p1, pn⟩, e2⟩ := HC.out _ hSw; go_simp
        first | done | with_reducible rfl
      refine wpAnyH_takeE (i := 5) (some 77) (v := ?_) rfl rfl (by as_aux_lemma => kernel_rfl) (by as_aux_lemma => kernel_rfl) (by as_aux_lemma => kernel_rfl) (fun _ _ _ h => h) (Or.inl ⟨by kernel_rfl, ?_⟩) hS ?_
      rotate_left
      · intro w hSw; obtain ⟨⟨p0, p1, pn⟩, e2⟩ := HC.out _ hSw; go_simp
        first | done | with_reducible rfl
      refine wpAnyH_takeE (i := 6) (some 78) (v := ?_) rfl rfl (by as_aux_lemma => kernel_rfl) (by as_aux_lemma => kernel_rfl) (by as_aux_lemma => kernel_rfl) (fun _ _ _ h => h) (Or.inl ⟨by kernel_rfl, ?_⟩) hS ?_
      rotate_left
      · intro w hSw; obtain ⟨⟨p0, p1, pn⟩, e2⟩ := HC.out _ hSw; go_simp
        first | done | with_reducible rfl
      (try simp only [Act.put, List.setIfInBounds_toArray, List.set_cons_zero, List.set_cons_succ])
      refine wpAnyH_takeE (i := 7) (some 79) (v := ?_) rfl rfl (by as_aux_lemma => kernel_rfl) (by as_aux_lemma => kernel_rfl) (by as_aux_lemma => kernel_rfl) (fun _ _ _ h => h) (Or.inl ⟨by kernel_rfl, ?_⟩) hS ?_
      rotate_left
      · intro w hSw; obtain ⟨⟨p0, p1, pn⟩, e2⟩ := HC.out _ hSw; go_simp
        first | done | with_reducible rfl
      refine wpAnyH_takeE (i := 8) (some 80) (v := ?_) rfl rfl (by as_aux_lemma => kernel_rfl) (by as_aux_lemma => kernel_rfl) (by as_aux_lemma => kernel_rfl) (fun _ _ _ h => h) (Or.inl ⟨by kernel_rfl, ?_⟩) hS ?_
      rotate_left
      · intro w hSw; obtain ⟨⟨p0, p1, pn⟩, e2⟩ := HC.out _ hSw; go_simp
        first | done | with_reducible rfl
      refine wpAnyH_takeE (i := 9) (some 81) (v := ?_) rfl rfl (by as_aux_lemma => kernel_rfl) (by as_aux_lemma => kernel_rfl) (by as_aux_lemma => kernel_rfl) (fun _ _ _ h => h) (Or.inl ⟨by kernel_rfl, ?_⟩) hS ?_
      rotate_left
      · intro w hSw; obtain ⟨⟨p0, p1, pn⟩, e2⟩ := HC.out _ hSw; go_simp
        first | done | with_reducible rfl
      refine wpAnyH_takeE (i := 10) (some 82) (v := ?_) rfl rfl (by as_aux_lemma => kernel_rfl) (by as_aux_lemma => kernel_rfl) (by as_aux_lemma => kernel_rfl) (fun _ _ _ h => h) (Or.inl ⟨by kernel_rfl, ?_⟩) hS ?_
      rotate_left
      · intro w hSw; obtain ⟨⟨p0, p1, pn⟩, e2⟩ := HC.out _ hSw; go_simp
        first | done | with_reducible rfl
      (try simp only [Act.put, List.setIfInBounds_toArray, List.set_cons_zero, List.set_cons_succ])
      refine wpAnyH_takeE (i := 11) (some 83) (v := ?_) rfl rfl (by as_aux_lemma => kernel_rfl) (by as_aux_lemma => kernel_rfl) (by as_aux_lemma => kernel_rfl) (fun _ _ _ h => h) (Or.inl ⟨by kernel_rfl, ?_⟩) hS ?_
      rotate_left
      · intro w hSw; obtain ⟨⟨p0, p1, pn⟩, e2⟩ := HC.out _ hSw; go_simp
        first | done | with_reducible rfl
      refine wpAnyH_takeE (i := 12) (some 84) (v := ?_) rfl rfl (by as_aux_lemma => kernel_rfl) (by as_aux_lemma => kernel_rfl) (by as_aux_lemma => kernel_rfl) (fun _ _ _ h => h) (Or.inl ⟨by kernel_rfl, ?_⟩) hS ?_
      rotate_left
      · intro w hSw; obtain ⟨⟨p0, p1, pn⟩, e2⟩ := HC.out _ hSw; go_simp
        first | done | with_reducible rfl
      refine wpAnyH_takeE (i := 13) (some 85) (v := ?_) rfl rfl (by as_aux_lemma => kernel_rfl) (by as_aux_lemma => kernel_rfl) (by as_aux_lemma => kernel_rfl) (fun _ _ _ h => h) (Or.inl ⟨by kernel_rfl, ?_⟩) hS ?_
      rotate_left
      · intro w hSw; obtain ⟨⟨p0, p1, pn⟩, e2⟩ := HC.out _ hSw; go_simp
        first | done | with_reducible rfl
      refine wpAnyH_takeE (i := 14) (some 86) (v := ?_) rfl rfl (by as_aux_lemma => kernel_rfl) (by as_aux_lemma => kernel_rfl) (by as_aux_lemma => kernel_rfl) (fun _ _ _ h => h) (Or.inl ⟨by kernel_rfl, ?_⟩) hS ?_
      rotate_left
      · intro w hSw; obtain ⟨⟨p0, p1, pn⟩, e2⟩ := HC.out _ hSw; go_simp
        first | done | with_reducible rfl
      (try simp only [Act.put, List.setIfInBounds_toArray, List.set_cons_zero, List.set_cons_succ])
      refine wpAnyH_takeE (i := 15) (some 87) (v := ?_) rfl rfl (by as_aux_lemma => kernel_rfl) (by as_aux_lemma => kernel_rfl) (by as_aux_lemma => kernel_rfl) (fun _ _ _ h => h) (Or.inl ⟨by kernel_rfl, ?_⟩) hS ?_
      rotate_left
      · intro w hSw; obtain ⟨⟨p0, p1, pn⟩, e2⟩ := HC.out _ hSw; go_simp
        first | done | with_reducible rfl
      refine wpAnyH_takeE (i := 16) (some 88) (v := ?_) rfl rfl (by as_aux_lemma => kernel_rfl) (by as_aux_lemma => kernel_rfl) (by as_aux_lemma => kernel_rfl) (fun _ _ _ h => h) (Or.inl ⟨by kernel_rfl, ?_⟩) hS ?_
      rotate_left
      · intro w hSw; obtain ⟨⟨p0, p1, pn⟩, e2⟩ := HC.out _ hSw; go_simp
        first | done | with_reducible rfl
      refine wpAnyH_ready (rs := [17]) (by as_aux_lemma => kernel_rfl) (by simp) ?_
      refine AllReadyH.cons rfl (fun K hK => ?_) AllReadyH.nil
      go_simp
      go_wp2_with (go_at_call 15; refine HTk.out.mono ?_; rintro e w4 ⟨a4, n4, c4, a5, n5, c5, rfl, o4, m4, hn5, s4, g4⟩; replace o4 := Lib.hid o4; replace s4 := Lib.hid s4; clear m4 hn5)
      refine hK.out _ _ ?_ (fun hS => ?_)
      · exact hS.trans g4
      clear hK K
      refine wpAnyH_takeE (i := 18) (some 71) (v := ?_) rfl rfl (by as_aux_lemma => kernel_rfl) (by as_aux_lemma => kernel_rfl) (by as_aux_lemma => kernel_rfl) (fun _ _ _ h => h) (Or.inl ⟨by kernel_rfl, ?_⟩) hS ?_
      rotate_left
      · intro w hSw; skip; go_simp
        first | done | with_reducible rfl
      refine wpAnyH_takeE (i := 19) (some 90) (v := ?_) rfl rfl (by as_aux_lemma => kernel_rfl) (by as_aux_lemma => kernel_rfl) (by as_aux_lemma => kernel_rfl) (fun _ _ _ h => h) (Or.inl ⟨by kernel_rfl, ?_⟩) hS ?_
      rotate_left
      · intro w hSw; skip; go_simp
        first | done | with_reducible rfl
      (try simp only [Act.put, List.setIfInBounds_toArray, List.set_cons_zero, List.set_cons_succ])
      refine wpAnyH_takeE (i := 20) (some 91) (v := ?_) rfl rfl (by as_aux_lemma => kernel_rfl) (by as_aux_lemma => kernel_rfl) (by as_aux_lemma => kernel_rfl) (fun _ _ _ h => h) (Or.inl ⟨by kernel_rfl, ?_⟩) hS ?_
      rotate_left
      · intro w hSw; skip; go_simp
        first | done | with_reducible rfl
      refine wpAnyH_takeE (i := 21) (some 8) (v := ?_) rfl rfl (by as_aux_lemma => kernel_rfl) (by as_aux_lemma => kernel_rfl) (by as_aux_lemma => kernel_rfl) (fun _ _ _ h => h) (Or.inl ⟨by kernel_rfl, ?_⟩) hS ?_
      rotate_left
      · intro w hSw; skip; go_simp
        first | done | with_reducible rfl
      refine wpAnyH_takeE (i := 22) (some 9) (v := ?_) rfl rfl (by as_aux_lemma => kernel_rfl) (by as_aux_lemma => kernel_rfl) (by as_aux_lemma => kernel_rfl) (fun _ _ _ h => h) (Or.inl ⟨by kernel_rfl, ?_⟩) hS ?_
      rotate_left
      · intro w hSw; skip; go_simp
        first | done | with_reducible rfl
      refine wpAnyH_done (by kernel_rfl) ?_ _
      (try simp only [Act.put, List.setIfInBounds_toArray, List.set_cons_zero, List.set_cons_succ])
      have HS4 := Lib.hid (HS3.out.prog hS s4.out)
      obtain ⟨t1, t2, t3⟩ := tick_outs HS3.out.st.tok HS3.out.st.pok HX.out.2.2.2.2 now3 A.d
      have HT1 := Lib.hid t1
      have HT2 := Lib.hid t2
      have HT3 := Lib.hid t3
      have HT4 := Lib.hid (tick_ts P T now3 A.d)
      clear t1 t2 t3 HC HTk HS3 s4 g4 hS e0 e1 e2 e3 e4 e5 e6
      generalize tickAny P T now3 A.d = K at *
      obtain ⟨KP, KT, Ko, Kn⟩ := K
      dsimp only at HS4 HT2 HT3 HT4 o4
      rcases HT1.out with ⟨ho, -⟩ | ⟨oo, ho, h1, h2, h3, h4, h5⟩
      · have ho' : Ko = [] := ho
        subst ho'
        obtain ⟨rfl, rfl, rfl⟩ := o4.out.none
        clear ho o4 HT1
        go_wp2
        refine wp_loop_rounds 1 ?_
        rw [rounds_succ]
        have HN9 : Hid (OthSt W w4 B b d s now3 (i + 1)) := Lib.hid ⟨_, _, _, _, _, _, _, _, _, _, HS4.out, (HT3.out.trans HX.out.1), (HT4.out.trans HX.out.2.1), HT9.out.1, HT9.out.2, HT2.out⟩
        clear HX HV HFit HRow
        go_wp2
        go_roundw
        case rel => exact ⟨i + 1, now3, by omega, by go_num, HN9⟩
        case measure => simp [intOf]; omega
      · have ho' : Ko = [oo] := ho
        subst ho'
        obtain ⟨gg, rfl, rfl, -, hgl, -, -, -, -, -⟩ := o4.out.one
        have HO : Hid (∀ u, Below w4.heap.size w4 u → OutRow u gg oo) := Lib.hid (fun u g => outRow_of (o4.out.on g))
        obtain ⟨x0, x1, x2, x3, x4, x5, x6⟩ := HO.out _ (Below.refl _ _)
        obtain ⟨oto, okd, ofr, oab, osq⟩ := oo
        dsimp only at x0 x1 x2 x3 x4 h1 h2 h3 h4 h5
        obtain ⟨tk, m, rfl, hget, hm2⟩ := there_get HS4.out.st.tok h2
        have hps : (P.s : Int) = (s : Int) := by rw [HX.out.1]
        rw [hps] at h1 h3 h4
        subst h1
        have hkt : KT.s = s := HT4.out.trans HX.out.2.1
        obtain ⟨ms, hms⟩ := HS4.out.st.tok.me
        rw [hkt] at hms
        have hmsn : ms.n = (s : Int) := (HS4.out.st.tok.ok _ _ hms).1
        have HGt := Lib.hid (fun u hu => bGet_any d KT tk u hu m true hget)
        have HSf := Lib.hid (fun u hu => bSelf_any d KT ms s hkt HS64.out hms u hu)
        have b1 : ((m.s : Int) == 2) = false := by simpa using hm2
        have b2 : ((tk : Int) == (s : Int)) = false := by simpa using h3
        have b3 : (oab == (s : Int)) = false := by simpa using h4
        have b4 : ((s : Int) == (s : Int)) = true := by simp
        have HH5 := Lib.hid h5
        clear HT1 ho h2 h3 h4 h5 hms hget hm2 hps hkt o4 hgl
        obtain ⟨mn, mst, mi⟩ := m
        obtain ⟨sn, sst, si⟩ := ms
        dsimp only at HGt HSf b1 hmsn
        subst hmsn
        go_wp2
        have HPT : Hid (∀ u, Below w4.heap.size w4 u → u.cell? ⟨B, 1, none⟩ = some (.pointer (some ⟨d, 0, none⟩)) ∧ TabBlk u d KT) := Lib.hid (fun u g => ⟨(HS4.out.on g).blk.at.p1, (HS4.out.on g).st.tab⟩)
        have p1 := (HPT.out _ (Below.refl _ _)).1
        refine wp_loop_rounds 2 ?_
        rw [rounds_succ]
        go_wp2_with fail
        clear x0 x1 x2 x3 x4 x5 x6 p1
        have HC : Hid (∀ u, Below w4.heap.size w4 u → u.cell? ⟨B, 1, none⟩ = some (.pointer (some ⟨d, 0, none⟩)) ∧ u.cell? ⟨gg, 0, none⟩ = some (.int .u16 (tk : Int))) := Lib.hid (fun u g => ⟨(HPT.out _ g).1, (HO.out _ g).c0⟩)
        have kz : ∀ w, (zeroValue 43).run Try.prog w = .ok (.agg #[.int .u16 0, .int .u8 0, .int .i64 0]) w := fun w => by kernel_rfl
        apply code_join1 (fun b6 w' => Mb w' b6 ⟨mn, mst, mi⟩ ∧ w4.heap.size ≤ b6 ∧ Below w4.heap.size w4 w')
        · skip
          refine wp_region_any (by kernel_rfl) ?_
          change wpAny _ _ _ _ _ _ _ (World.drew _)
          have hS : (fun w' : World => Below w4.heap.size w4 w') w4.drew := (Below.refl _ w4).drew
          refine wpAny_of_held (S := fun w' => Below w4.heap.size w4 w') _ _ _ _ ?_
          refine wpAnyH_takeE (i := 0) (some 99) (v := ?_) rfl rfl (by as_aux_lemma => kernel_rfl) (by as_aux_lemma => kernel_rfl) (by as_aux_lemma => kernel_rfl) (fun _ _ _ h => h) (Or.inl ⟨by kernel_rfl, ?_⟩) hS ?_
          rotate_left
          · intro w hSw; obtain ⟨p1, x0⟩ := HC.out _ hSw; go_simp
            first | done | with_reducible rfl
          (try simp only [Act.put, List.setIfInBounds_toArray, List.set_cons_zero, List.set_cons_succ])
          refine wpAnyH_takeE (i := 1) (some 100) (v := ?_) rfl rfl (by as_aux_lemma => kernel_rfl) (by as_aux_lemma => kernel_rfl) (by as_aux_lemma => kernel_rfl) (fun _ _ _ h => h) (Or.inl ⟨by kernel_rfl, ?_⟩) hS ?_
          rotate_left
          · intro w hSw; obtain ⟨p1, x0⟩ := HC.out _ hSw; go_simp
            first | done | with_reducible rfl
          refine wpAnyH_takeE (i := 2) (some 101) (v := ?_) rfl rfl (by as_aux_lemma => kernel_rfl) (by as_aux_lemma => kernel_rfl) (by as_aux_lemma => kernel_rfl) (fun _ _ _ h => h) (Or.inl ⟨by kernel_rfl, ?_⟩) hS ?_
          rotate_left
          · intro w hSw; obtain ⟨p1, x0⟩ := HC.out _ hSw; go_simp
            first | done | with_reducible rfl
          refine wpAnyH_takeE (i := 3) (some 102) (v := ?_) rfl rfl (by as_aux_lemma => kernel_rfl) (by as_aux_lemma => kernel_rfl) (by as_aux_lemma => kernel_rfl) (fun _ _ _ h => h) (Or.inl ⟨by kernel_rfl, ?_⟩) hS ?_
          rotate_left
          · intro w hSw; obtain ⟨p1, x0⟩ := HC.out _ hSw; go_simp
            first | done | with_reducible rfl
          refine wpAnyH_takeE (i := 4) (some 103) (v := ?_) rfl rfl (by as_aux_lemma => kernel_rfl) (by as_aux_lemma => kernel_rfl) (by as_aux_lemma => kernel_rfl) (fun _ _ _ h => h) (Or.inl ⟨by kernel_rfl, ?_⟩) hS ?_
          rotate_left
          · intro w hSw; obtain ⟨p1, x0⟩ := HC.out _ hSw; go_simp
            first | done | with_reducible rfl
          (try simp only [Act.put, List.setIfInBounds_toArray, List.set_cons_zero, List.set_cons_succ])
          refine wpAnyH_takeE (i := 5) (some 104) (v := ?_) rfl rfl (by as_aux_lemma => kernel_rfl) (by as_aux_lemma => kernel_rfl) (by as_aux_lemma => kernel_rfl) (fun _ _ _ h => h) (Or.inl ⟨by kernel_rfl, ?_⟩) hS ?_
          rotate_left
          · intro w hSw; obtain ⟨p1, x0⟩ := HC.out _ hSw; go_simp
            first | done | with_reducible rfl
          refine wpAnyH_takeE (i := 6) (some 105) (v := ?_) rfl rfl (by as_aux_lemma => kernel_rfl) (by as_aux_lemma => kernel_rfl) (by as_aux_lemma => kernel_rfl) (fun _ _ _ h => h) (Or.inl ⟨by kernel_rfl, ?_⟩) hS ?_
          rotate_left
          · intro w hSw; obtain ⟨p1, x0⟩ := HC.out _ hSw; go_simp
            first | done | with_reducible rfl
          refine wpAnyH_takeE (i := 7) (some 106) (v := ?_) rfl rfl (by as_aux_lemma => kernel_rfl) (by as_aux_lemma => kernel_rfl) (by as_aux_lemma => kernel_rfl) (fun _ _ _ h => h) (Or.inl ⟨by kernel_rfl, ?_⟩) hS ?_
          rotate_left
          · intro w hSw; obtain ⟨p1, x0⟩ := HC.out _ hSw; go_simp
            first | done | with_reducible rfl
          refine wpAnyH_takeE (i := 8) (some 107) (v := ?_) rfl rfl (by as_aux_lemma => kernel_rfl) (by as_aux_lemma => kernel_rfl) (by as_aux_lemma => kernel_rfl) (fun _ _ _ h => h) (Or.inl ⟨by kernel_rfl, ?_⟩) hS ?_
          rotate_left
          · intro w hSw; obtain ⟨p1, x0⟩ := HC.out _ hSw; go_simp
            first | done | with_reducible rfl
          (try simp only [Act.put, List.setIfInBounds_toArray, List.set_cons_zero, List.set_cons_succ])
          refine wpAnyH_ready (rs := [9, 13]) (by as_aux_lemma => kernel_rfl) (by simp) ?_
          refine AllReadyH.cons rfl (fun K hK => ?_) (AllReadyH.cons rfl (fun K hK => ?_) AllReadyH.nil)
          · skip
            go_simp
            go_wp2_with (go_at_call 22; refine (HGt.out _ (HPT.out _ hS).2).mono ?_; rintro e w5 ⟨rfl, q5⟩; replace q5 := Lib.hid q5)
            refine hK.out _ _ (hS.trans (q5.out.mono hS.size)) (fun hS => ?_)
            clear hK K
            refine wpAnyH_takeE (i := 10) (some 98) (v := ?_) rfl rfl (by as_aux_lemma => kernel_rfl) (by as_aux_lemma => kernel_rfl) (by as_aux_lemma => kernel_rfl) (fun _ _ _ h => h) (Or.inl ⟨by kernel_rfl, ?_⟩) hS ?_
            rotate_left
            · intro w hSw; skip; go_simp
              first | done | with_reducible rfl
            refine wpAnyH_takeE (i := 11) (some 109) (v := ?_) rfl rfl (by as_aux_lemma => kernel_rfl) (by as_aux_lemma => kernel_rfl) (by as_aux_lemma => kernel_rfl) (fun _ _ _ h => h) (Or.inl ⟨by kernel_rfl, ?_⟩) hS ?_
            rotate_left
            · intro w hSw; skip; go_simp
              first | done | with_reducible rfl
            refine wpAnyH_takeE (i := 12) (some 110) (v := ?_) rfl rfl (by as_aux_lemma => kernel_rfl) (by as_aux_lemma => kernel_rfl) (by as_aux_lemma => kernel_rfl) (fun _ _ _ h => h) (Or.inl ⟨by kernel_rfl, ?_⟩) hS ?_
            rotate_left
            · intro w hSw; skip; go_simp
              first | done | with_reducible rfl
            have rb : Mb (w5.alloc (.cells #[.int .u16 0, .int .u8 0, .int .i64 0] 43)) w5.heap.size zM := Mb.new w5 zM
            have dX := (Below.refl w5.heap.size w5).alloc (Nat.le_refl _) (.cells #[.int .u16 0, .int .u8 0, .int .i64 0] 43)
            have hbx : w4.heap.size ≤ w5.heap.size := hS.size
            refine wpAnyH_ready (rs := [13]) (by as_aux_lemma => kernel_rfl) (by simp) ?_
            refine AllReadyH.cons rfl (fun K hK => ?_) AllReadyH.nil
            go_simp
            refine hK.out _ _ (hS.trans (dX.mono hS.size)) (fun hS => ?_)
            clear hK K dX
            generalize w5.alloc (.cells #[.int .u16 0, .int .u8 0, .int .i64 0] 43) = u4 at *
            generalize w5.heap.size = b6 at *
            have zf := rb.f
            have z0 := rb.c0
            have z1 := rb.c1
            have z2 := rb.c2
            have HE : Hid (Mb (stM u4 b6 ⟨mn, mst, mi⟩) b6 ⟨mn, mst, mi⟩ ∧ Below w4.heap.size w4 (stM u4 b6 ⟨mn, mst, mi⟩)) := Lib.hid ⟨rb.store _, stM_below hS hbx _⟩
            have HBx := Lib.hid hbx
            clear rb hbx
            refine wpAnyH_ready (rs := [14]) (by as_aux_lemma => kernel_rfl) (by simp) ?_
            refine AllReadyH.cons rfl (fun K hK => ?_) AllReadyH.nil
            go_simp
            refine hK.out _ _ HE.out.2 (fun hS => ?_)
            clear hK K z0 z1 z2 zf
            refine wpAnyH_takeE (i := 15) (some 12) (v := ?_) rfl rfl (by as_aux_lemma => kernel_rfl) (by as_aux_lemma => kernel_rfl) (by as_aux_lemma => kernel_rfl) (fun _ _ _ h => h) (Or.inl ⟨by kernel_rfl, ?_⟩) hS ?_
            rotate_left
            · intro w hSw; skip; go_simp
              first | done | with_reducible rfl
            (try simp only [Act.put, List.setIfInBounds_toArray, List.set_cons_zero, List.set_cons_succ])
            refine wpAnyH_done (by kernel_rfl) ?_ _
            (try simp only [Act.put, List.setIfInBounds_toArray, List.set_cons_zero, List.set_cons_succ])
            exact ⟨b6, rfl, HE.out.1, HBx.out, HE.out.2⟩
          · skip
            go_simp
            have rb : Mb (w4.alloc (.cells #[.int .u16 0, .int .u8 0, .int .i64 0] 43)).drew w4.heap.size zM := Mb.new w4 zM
            have dX : Below w4.heap.size w4 (w4.alloc (.cells #[.int .u16 0, .int .u8 0, .int .i64 0] 43)).drew := ((Below.refl w4.heap.size w4).alloc (Nat.le_refl _) (.cells #[.int .u16 0, .int .u8 0, .int .i64 0] 43)).drew
            refine hK.out _ _ dX (fun hS => ?_)
            clear hK K dX
            have hbx : w4.heap.size ≤ w4.heap.size := Nat.le_refl _
            generalize (w4.alloc (.cells #[.int .u16 0, .int .u8 0, .int .i64 0] 43)).drew = u3 at *
            refine wpAnyH_ready (rs := [9]) (by as_aux_lemma => kernel_rfl) (by simp) ?_
            refine AllReadyH.cons rfl (fun K hK => ?_) AllReadyH.nil
            go_simp
            go_wp2_with (go_at_call 22; refine (HGt.out _ (HPT.out _ hS).2).mono ?_; rintro e u4 ⟨rfl, q5⟩; replace q5 := Lib.hid q5)
            refine hK.out _ _ (hS.trans (q5.out.mono hS.size)) (fun hS => ?_)
            clear hK K
            replace rb := rb.on q5.out
            refine wpAnyH_takeE (i := 10) (some 98) (v := ?_) rfl rfl (by as_aux_lemma => kernel_rfl) (by as_aux_lemma => kernel_rfl) (by as_aux_lemma => kernel_rfl) (fun _ _ _ h => h) (Or.inl ⟨by kernel_rfl, ?_⟩) hS ?_
            rotate_left
            · intro w hSw; skip; go_simp
              first | done | with_reducible rfl
            refine wpAnyH_takeE (i := 11) (some 109) (v := ?_) rfl rfl (by as_aux_lemma => kernel_rfl) (by as_aux_lemma => kernel_rfl) (by as_aux_lemma => kernel_rfl) (fun _ _ _ h => h) (Or.inl ⟨by kernel_rfl, ?_⟩) hS ?_
            rotate_left
            · intro w hSw; skip; go_simp
              first | done | with_reducible rfl
            refine wpAnyH_takeE (i := 12) (some 110) (v := ?_) rfl rfl (by as_aux_lemma => kernel_rfl) (by as_aux_lemma => kernel_rfl) (by as_aux_lemma => kernel_rfl) (fun _ _ _ h => h) (Or.inl ⟨by kernel_rfl, ?_⟩) hS ?_
            rotate_left
            · intro w hSw; skip; go_simp
              first | done | with_reducible rfl
            have zf := rb.f
            have z0 := rb.c0
            have z1 := rb.c1
            have z2 := rb.c2
            have HE : Hid (Mb (stM u4 w4.heap.size ⟨mn, mst, mi⟩) w4.heap.size ⟨mn, mst, mi⟩ ∧ Below w4.heap.size w4 (stM u4 w4.heap.size ⟨mn, mst, mi⟩)) := Lib.hid ⟨rb.store _, stM_below hS hbx _⟩
            have HBx := Lib.hid hbx
            clear rb hbx
            refine wpAnyH_ready (rs := [14]) (by as_aux_lemma => kernel_rfl) (by simp) ?_
            refine AllReadyH.cons rfl (fun K hK => ?_) AllReadyH.nil
            go_simp
            refine hK.out _ _ HE.out.2 (fun hS => ?_)
            clear hK K z0 z1 z2 zf
            refine wpAnyH_takeE (i := 15) (some 12) (v := ?_) rfl rfl (by as_aux_lemma => kernel_rfl) (by as_aux_lemma => kernel_rfl) (by as_aux_lemma => kernel_rfl) (fun _ _ _ h => h) (Or.inl ⟨by kernel_rfl, ?_⟩) hS ?_
            rotate_left
            · intro w hSw; skip; go_simp
              first | done | with_reducible rfl
            (try simp only [Act.put, List.setIfInBounds_toArray, List.set_cons_zero, List.set_cons_succ])
            refine wpAnyH_done (by kernel_rfl) ?_ _
            (try simp only [Act.put, List.setIfInBounds_toArray, List.set_cons_zero, List.set_cons_succ])
            exact ⟨w4.heap.size, rfl, HE.out.1, HBx.out, HE.out.2⟩
        · intro b6 w5 ⟨hb6, hlt6, hb5⟩
          have z0 := hb6.c0
          have z1 := hb6.c1
          have z2 := hb6.c2
          have HB6 := Lib.hid (And.intro hb6 (And.intro hlt6 hb5))
          obtain ⟨x0, x1, x2, x3, x4, x5, x6⟩ := HO.out _ hb5
          have p1 := (HPT.out _ hb5).1
          dsimp only at x0 x1 x2 x3 x4
          clear hb6 hlt6 hb5 HC kz
          rcases HH5.out with ⟨rfl, hne, -⟩ | ⟨rfl, rfl, -, -⟩
          · have b5 : (oab == (tk : Int)) = false := by simpa using hne
            clear hne
            go_wp2_with fail
            have hk7 : PkR (w5.alloc (.cells #[.int .u8 2, .int .u16 (s : Int), .int .u16 oab, .int .i64 osq, .slice none 0 0, .slice none 0 0] 66)) w5.heap.size 2 (s : Int) oab := ⟨osq, newE w5 _⟩
            have hb7 : Below w4.heap.size w4 (w5.alloc (.cells #[.int .u8 2, .int .u16 (s : Int), .int .u16 oab, .int .i64 osq, .slice none 0 0, .slice none 0 0] 66)) := HB6.out.2.2.alloc HB6.out.2.2.size _
            have hm7 : Mb (w5.alloc (.cells #[.int .u8 2, .int .u16 (s : Int), .int .u16 oab, .int .i64 osq, .slice none 0 0, .slice none 0 0] 66)) b6 ⟨mn, mst, mi⟩ := HB6.out.1.on ((Below.refl _ _).alloc (Nat.le_refl _) _)
            clear HB6 z0 z1 z2 x0 x1 x2 x3 x4 x5 x6 p1
            generalize w5.alloc (.cells #[.int .u8 2, .int .u16 (s : Int), .int .u16 oab, .int .i64 osq, .slice none 0 0, .slice none 0 0] 66) = w6 at *
            generalize w5.heap.size = b7 at *
            have HC : Hid (∀ u, Below w6.heap.size w6 u → (u.cell? ⟨B, 1, none⟩ = some (.pointer (some ⟨d, 0, none⟩)) ∧ u.cell? ⟨gg, 0, none⟩ = some (.int .u16 (tk : Int)) ∧ u.cell? ⟨b6, 1, none⟩ = some (.int .u8 mst)) ∧ (u.cell? ⟨b7, 0, none⟩ = some (.int .u8 2) ∧ u.cell? ⟨b7, 1, none⟩ = some (.int .u16 (s : Int)) ∧ u.cell? ⟨b7, 2, none⟩ = some (.int .u16 oab)) ∧ TabBlk u d KT) := Lib.hid (fun u g => by
              have g4 := hb7.trans (g.mono hb7.size)
              have hk := hk7.on g
              exact ⟨⟨(HPT.out _ g4).1, (HO.out _ g4).c0, (hm7.on g).c1⟩, ⟨hk.c0, hk.c1, hk.c2⟩, (HPT.out _ g4).2⟩)
            have HB7 := Lib.hid hb7
            have kf : ∀ w, (Instr.field 43 (.agg #[.int .u16 (s : Int), .int .u8 sst, .int .i64 si]) 0).run Try.prog w = .ok (.int .u16 (s : Int)) w := fun w => by kernel_rfl
            clear hk7 hb7 hm7
            refine wp_region_any (by kernel_rfl) ?_
            change wpAny _ _ _ _ _ _ _ (World.drew _)
            have hS : (fun w' : World => Below w6.heap.size w6 w') w6.drew := (Below.refl _ w6).drew
            refine wpAny_of_held (S := fun w' => Below w6.heap.size w6 w') _ _ _ _ ?_
            refine wpAnyH_takeE (i := 0) (some 116) (v := ?_) rfl rfl (by as_aux_lemma => kernel_rfl) (by as_aux_lemma => kernel_rfl) (by as_aux_lemma => kernel_rfl) (fun _ _ _ h => h) (Or.inl ⟨by kernel_rfl, ?_⟩) hS ?_
            rotate_left
            · intro w hSw; obtain ⟨⟨p1, x0, z1⟩, ⟨y0, y1, y2⟩, -⟩ := HC.out _ hSw; go_simp
              first | done | with_reducible rfl
            refine wpAnyH_takeE (i := 1) (some 117) (v := ?_) rfl rfl (by as_aux_lemma => kernel_rfl) (by as_aux_lemma => kernel_rfl) (by as_aux_lemma => kernel_rfl) (fun _ _ _ h => h) (Or.inl ⟨by kernel_rfl, ?_⟩) hS ?_
            rotate_left
            · intro w hSw; obtain ⟨⟨p1, x0, z1⟩, ⟨y0, y1, y2⟩, -⟩ := HC.out _ hSw; go_simp
              first | done | with_reducible rfl
            refine wpAnyH_takeE (i := 2) (some 118) (v := ?_) rfl rfl (by as_aux_lemma => kernel_rfl) (by as_aux_lemma => kernel_rfl) (by as_aux_lemma => kernel_rfl) (fun _ _ _ h => h) (Or.inl ⟨by kernel_rfl, ?_⟩) hS ?_
            rotate_left
            · intro w hSw; obtain ⟨⟨p1, x0, z1⟩, ⟨y0, y1, y2⟩, -⟩ := HC.out _ hSw; go_simp
              first | done | with_reducible rfl
            refine wpAnyH_takeE (i := 3) (some 119) (v := ?_) rfl rfl (by as_aux_lemma => kernel_rfl) (by as_aux_lemma => kernel_rfl) (by as_aux_lemma => kernel_rfl) (fun _ _ _ h => h) (Or.inl ⟨by kernel_rfl, ?_⟩) hS ?_
            rotate_left
            · intro w hSw; obtain ⟨⟨p1, x0, z1⟩, ⟨y0, y1, y2⟩, -⟩ := HC.out _ hSw; go_simp
              first | done | with_reducible rfl
            (try simp only [Act.put, List.setIfInBounds_toArray, List.set_cons_zero, List.set_cons_succ])
            refine wpAnyH_takeE (i := 4) (some 120) (v := ?_) rfl rfl (by as_aux_lemma => kernel_rfl) (by as_aux_lemma => kernel_rfl) (by as_aux_lemma => kernel_rfl) (fun _ _ _ h => h) (Or.inl ⟨by kernel_rfl, ?_⟩) hS ?_
            rotate_left
            · intro w hSw; obtain ⟨⟨p1, x0, z1⟩, ⟨y0, y1, y2⟩, -⟩ := HC.out _ hSw; go_simp
              first | done | with_reducible rfl
            refine wpAnyH_takeE (i := 5) (some 121) (v := ?_) rfl rfl (by as_aux_lemma => kernel_rfl) (by as_aux_lemma => kernel_rfl) (by as_aux_lemma => kernel_rfl) (fun _ _ _ h => h) (Or.inl ⟨by kernel_rfl, ?_⟩) hS ?_
            rotate_left
            · intro w hSw; obtain ⟨⟨p1, x0, z1⟩, ⟨y0, y1, y2⟩, -⟩ := HC.out _ hSw; go_simp
              first | done | with_reducible rfl
            refine wpAnyH_takeE (i := 6) (some 122) (v := ?_) rfl rfl (by as_aux_lemma => kernel_rfl) (by as_aux_lemma => kernel_rfl) (by as_aux_lemma => kernel_rfl) (fun _ _ _ h => h) (Or.inl ⟨by kernel_rfl, ?_⟩) hS ?_
            rotate_left
            · intro w hSw; obtain ⟨⟨p1, x0, z1⟩, ⟨y0, y1, y2⟩, -⟩ := HC.out _ hSw; go_simp
              first | done | with_reducible rfl
            refine wpAnyH_takeE (i := 7) (some 123) (v := ?_) rfl rfl (by as_aux_lemma => kernel_rfl) (by as_aux_lemma => kernel_rfl) (by as_aux_lemma => kernel_rfl) (fun _ _ _ h => h) (Or.inl ⟨by kernel_rfl, ?_⟩) hS ?_
            rotate_left
            · intro w hSw; obtain ⟨⟨p1, x0, z1⟩, ⟨y0, y1, y2⟩, -⟩ := HC.out _ hSw; go_simp
              first | done | with_reducible rfl
            (try simp only [Act.put, List.setIfInBounds_toArray, List.set_cons_zero, List.set_cons_succ])
            refine wpAnyH_takeE (i := 8) (some 124) (v := ?_) rfl rfl (by as_aux_lemma => kernel_rfl) (by as_aux_lemma => kernel_rfl) (by as_aux_lemma => kernel_rfl) (fun _ _ _ h => h) (Or.inl ⟨by kernel_rfl, ?_⟩) hS ?_
            rotate_left
            · intro w hSw; obtain ⟨⟨p1, x0, z1⟩, ⟨y0, y1, y2⟩, -⟩ := HC.out _ hSw; go_simp
              first | done | with_reducible rfl
            refine wpAnyH_takeE (i := 9) (some 125) (v := ?_) rfl rfl (by as_aux_lemma => kernel_rfl) (by as_aux_lemma => kernel_rfl) (by as_aux_lemma => kernel_rfl) (fun _ _ _ h => h) (Or.inl ⟨by kernel_rfl, ?_⟩) hS ?_
            rotate_left
            · intro w hSw; obtain ⟨⟨p1, x0, z1⟩, ⟨y0, y1, y2⟩, -⟩ := HC.out _ hSw; go_simp
              first | done | with_reducible rfl
            refine wpAnyH_takeE (i := 10) (some 126) (v := ?_) rfl rfl (by as_aux_lemma => kernel_rfl) (by as_aux_lemma => kernel_rfl) (by as_aux_lemma => kernel_rfl) (fun _ _ _ h => h) (Or.inl ⟨by kernel_rfl, ?_⟩) hS ?_
            rotate_left
            · intro w hSw; obtain ⟨⟨p1, x0, z1⟩, ⟨y0, y1, y2⟩, -⟩ := HC.out _ hSw; go_simp
              first | done | with_reducible rfl
            refine wpAnyH_takeE (i := 11) (some 127) (v := ?_) rfl rfl (by as_aux_lemma => kernel_rfl) (by as_aux_lemma => kernel_rfl) (by as_aux_lemma => kernel_rfl) (fun _ _ _ h => h) (Or.inl ⟨by kernel_rfl, ?_⟩) hS ?_
            rotate_left
            · intro w hSw; obtain ⟨⟨p1, x0, z1⟩, ⟨y0, y1, y2⟩, -⟩ := HC.out _ hSw; go_simp
              first | done | with_reducible rfl
            (try simp only [Act.put, List.setIfInBounds_toArray, List.set_cons_zero, List.set_cons_succ])
            refine wpAnyH_takeE (i := 12) (some 128) (v := ?_) rfl rfl (by as_aux_lemma => kernel_rfl) (by as_aux_lemma => kernel_rfl) (by as_aux_lemma => kernel_rfl) (fun _ _ _ h => h) (Or.inl ⟨by kernel_rfl, ?_⟩) hS ?_
            rotate_left
            · intro w hSw; obtain ⟨⟨p1, x0, z1⟩, ⟨y0, y1, y2⟩, -⟩ := HC.out _ hSw; go_simp
              first | done | with_reducible rfl
            refine wpAnyH_takeE (i := 13) (some 129) (v := ?_) rfl rfl (by as_aux_lemma => kernel_rfl) (by as_aux_lemma => kernel_rfl) (by as_aux_lemma => kernel_rfl) (fun _ _ _ h => h) (Or.inl ⟨by kernel_rfl, ?_⟩) hS ?_
            rotate_left
            · intro w hSw; obtain ⟨⟨p1, x0, z1⟩, ⟨y0, y1, y2⟩, -⟩ := HC.out _ hSw; go_simp
              first | done | with_reducible rfl
            refine wpAnyH_takeE (i := 14) (some 130) (v := ?_) rfl rfl (by as_aux_lemma => kernel_rfl) (by as_aux_lemma => kernel_rfl) (by as_aux_lemma => kernel_rfl) (fun _ _ _ h => h) (Or.inl ⟨by kernel_rfl, ?_⟩) hS ?_
            rotate_left
            · intro w hSw; obtain ⟨⟨p1, x0, z1⟩, ⟨y0, y1, y2⟩, -⟩ := HC.out _ hSw; go_simp
              first | done | with_reducible rfl
            refine wpAnyH_takeE (i := 15) (some 131) (v := ?_) rfl rfl (by as_aux_lemma => kernel_rfl) (by as_aux_lemma => kernel_rfl) (by as_aux_lemma => kernel_rfl) (fun _ _ _ h => h) (Or.inl ⟨by kernel_rfl, ?_⟩) hS ?_
            rotate_left
            · intro w hSw; obtain ⟨⟨p1, x0, z1⟩, ⟨y0, y1, y2⟩, -⟩ := HC.out _ hSw; go_simp
              first | done | with_reducible rfl
            (try simp only [Act.put, List.setIfInBounds_toArray, List.set_cons_zero, List.set_cons_succ])
            refine wpAnyH_takeE (i := 16) (some 132) (v := ?_) rfl rfl (by as_aux_lemma => kernel_rfl) (by as_aux_lemma => kernel_rfl) (by as_aux_lemma => kernel_rfl) (fun _ _ _ h => h) (Or.inl ⟨by kernel_rfl, ?_⟩) hS ?_
            rotate_left
            · intro w hSw; obtain ⟨⟨p1, x0, z1⟩, ⟨y0, y1, y2⟩, -⟩ := HC.out _ hSw; go_simp
              first | done | with_reducible rfl
            refine wpAnyH_ready (rs := [17]) (by as_aux_lemma => kernel_rfl) (by simp) ?_
            refine AllReadyH.cons rfl (fun K hK => ?_) AllReadyH.nil
            go_simp
            go_wp2_with (go_at_call 23; refine (HSf.out _ (HC.out _ hS).2.2).mono ?_; rintro e w7 ⟨rfl, q7⟩; replace q7 := Lib.hid q7)
            refine hK.out _ _ ?_ (fun hS => ?_)
            · exact hS.trans (q7.out.mono hS.size)
            clear hK K
            refine wpAnyH_takeE (i := 18) (some 134) (v := ?_) rfl rfl (by as_aux_lemma => kernel_rfl) (by as_aux_lemma => kernel_rfl) (by as_aux_lemma => kernel_rfl) (fun _ _ _ h => h) (Or.inl ⟨by kernel_rfl, ?_⟩) hS ?_
            rotate_left
            · intro w hSw; obtain ⟨⟨p1, x0, z1⟩, ⟨y0, y1, y2⟩, -⟩ := HC.out _ hSw; go_simp
              first | done | with_reducible rfl
            refine wpAnyH_takeE (i := 19) (some 135) (v := ?_) rfl rfl (by as_aux_lemma => kernel_rfl) (by as_aux_lemma => kernel_rfl) (by as_aux_lemma => kernel_rfl) (fun _ _ _ h => h) (Or.inl ⟨by kernel_rfl, ?_⟩) hS ?_
            rotate_left
            · intro w hSw; obtain ⟨⟨p1, x0, z1⟩, ⟨y0, y1, y2⟩, -⟩ := HC.out _ hSw; go_simp
              first | done | with_reducible rfl
            refine wpAnyH_takeE (i := 20) (some 136) (v := ?_) rfl rfl (by as_aux_lemma => kernel_rfl) (by as_aux_lemma => kernel_rfl) (by as_aux_lemma => kernel_rfl) (fun _ _ _ h => h) (Or.inl ⟨by kernel_rfl, ?_⟩) hS ?_
            rotate_left
            · intro w hSw; obtain ⟨⟨p1, x0, z1⟩, ⟨y0, y1, y2⟩, -⟩ := HC.out _ hSw; go_simp
              first | done | with_reducible rfl
            (try simp only [Act.put, List.setIfInBounds_toArray, List.set_cons_zero, List.set_cons_succ])
            refine wpAnyH_takeE (i := 21) (some 137) (v := ?_) rfl rfl (by as_aux_lemma => kernel_rfl) (by as_aux_lemma => kernel_rfl) (by as_aux_lemma => kernel_rfl) (fun _ _ _ h => h) (Or.inl ⟨by kernel_rfl, ?_⟩) hS ?_
            rotate_left
            · intro w hSw; obtain ⟨⟨p1, x0, z1⟩, ⟨y0, y1, y2⟩, -⟩ := HC.out _ hSw; go_simp
              first | done | with_reducible rfl
            refine wpAnyH_takeE (i := 22) (some 138) (v := ?_) rfl rfl (by as_aux_lemma => kernel_rfl) (by as_aux_lemma => kernel_rfl) (by as_aux_lemma => kernel_rfl) (fun _ _ _ h => h) (Or.inl ⟨by kernel_rfl, ?_⟩) hS ?_
            rotate_left
            · intro w hSw; obtain ⟨⟨p1, x0, z1⟩, ⟨y0, y1, y2⟩, -⟩ := HC.out _ hSw; go_simp
              first | done | with_reducible rfl
            refine wpAnyH_takeE (i := 23) (some 139) (v := ?_) rfl rfl (by as_aux_lemma => kernel_rfl) (by as_aux_lemma => kernel_rfl) (by as_aux_lemma => kernel_rfl) (fun _ _ _ h => h) (Or.inl ⟨by kernel_rfl, ?_⟩) hS ?_
            rotate_left
            · intro w hSw; obtain ⟨⟨p1, x0, z1⟩, ⟨y0, y1, y2⟩, -⟩ := HC.out _ hSw; go_simp
              first | done | with_reducible rfl
            refine wpAnyH_takeE (i := 24) (some 140) (v := ?_) rfl rfl (by as_aux_lemma => kernel_rfl) (by as_aux_lemma => kernel_rfl) (by as_aux_lemma => kernel_rfl) (fun _ _ _ h => h) (Or.inl ⟨by kernel_rfl, ?_⟩) hS ?_
            rotate_left
            · intro w hSw; obtain ⟨⟨p1, x0, z1⟩, ⟨y0, y1, y2⟩, -⟩ := HC.out _ hSw; go_simp
              first | done | with_reducible rfl
            (try simp only [Act.put, List.setIfInBounds_toArray, List.set_cons_zero, List.set_cons_succ])
            refine wpAnyH_takeE (i := 25) (some 141) (v := ?_) rfl rfl (by as_aux_lemma => kernel_rfl) (by as_aux_lemma => kernel_rfl) (by as_aux_lemma => kernel_rfl) (fun _ _ _ h => h) (Or.inl ⟨by kernel_rfl, ?_⟩) hS ?_
            rotate_left
            · intro w hSw; obtain ⟨⟨p1, x0, z1⟩, ⟨y0, y1, y2⟩, -⟩ := HC.out _ hSw; go_simp
              first | done | with_reducible rfl
            refine wpAnyH_takeE (i := 26) (some 142) (v := ?_) rfl rfl (by as_aux_lemma => kernel_rfl) (by as_aux_lemma => kernel_rfl) (by as_aux_lemma => kernel_rfl) (fun _ _ _ h => h) (Or.inl ⟨by kernel_rfl, ?_⟩) hS ?_
            rotate_left
            · intro w hSw; obtain ⟨⟨p1, x0, z1⟩, ⟨y0, y1, y2⟩, -⟩ := HC.out _ hSw; go_simp
              first | done | with_reducible rfl
            refine wpAnyH_takeE (i := 27) (some 143) (v := ?_) rfl rfl (by as_aux_lemma => kernel_rfl) (by as_aux_lemma => kernel_rfl) (by as_aux_lemma => kernel_rfl) (fun _ _ _ h => h) (Or.inl ⟨by kernel_rfl, ?_⟩) hS ?_
            rotate_left
            · intro w hSw; obtain ⟨⟨p1, x0, z1⟩, ⟨y0, y1, y2⟩, -⟩ := HC.out _ hSw; go_simp
              first | done | with_reducible rfl
            refine wpAnyH_ready (rs := [28]) (by as_aux_lemma => kernel_rfl) (by simp) ?_
            refine AllReadyH.cons rfl (fun K hK => ?_) AllReadyH.nil
            go_simp
            go_wp2_with (go_at_call 23; refine (HSf.out _ (HC.out _ hS).2.2).mono ?_; rintro e w8 ⟨rfl, q8⟩; replace q8 := Lib.hid q8)
            refine hK.out _ _ ?_ (fun hS => ?_)
            · exact hS.trans (q8.out.mono hS.size)
            clear hK K
            refine wpAnyH_takeE (i := 29) (some 145) (v := ?_) rfl rfl (by as_aux_lemma => kernel_rfl) (by as_aux_lemma => kernel_rfl) (by as_aux_lemma => kernel_rfl) (fun _ _ _ h => h) (Or.inl ⟨by kernel_rfl, ?_⟩) hS ?_
            rotate_left
            · intro w hSw; obtain ⟨⟨p1, x0, z1⟩, ⟨y0, y1, y2⟩, -⟩ := HC.out _ hSw; go_simp
              first | done | with_reducible rfl
            (try simp only [Act.put, List.setIfInBounds_toArray, List.set_cons_zero, List.set_cons_succ])
            refine wpAnyH_takeE (i := 30) (some 146) (v := ?_) rfl rfl (by as_aux_lemma => kernel_rfl) (by as_aux_lemma => kernel_rfl) (by as_aux_lemma => kernel_rfl) (fun _ _ _ h => h) (Or.inl ⟨by kernel_rfl, ?_⟩) hS ?_
            rotate_left
            · intro w hSw; obtain ⟨⟨p1, x0, z1⟩, ⟨y0, y1, y2⟩, -⟩ := HC.out _ hSw; go_simp
              first | done | with_reducible rfl
            refine wpAnyH_takeE (i := 31) (some 147) (v := ?_) rfl rfl (by as_aux_lemma => kernel_rfl) (by as_aux_lemma => kernel_rfl) (by as_aux_lemma => kernel_rfl) (fun _ _ _ h => h) (Or.inl ⟨by kernel_rfl, ?_⟩) hS ?_
            rotate_left
            · intro w hSw; obtain ⟨⟨p1, x0, z1⟩, ⟨y0, y1, y2⟩, -⟩ := HC.out _ hSw; go_simp
              first | done | with_reducible rfl
            refine wpAnyH_takeE (i := 32) (some 148) (v := ?_) rfl rfl (by as_aux_lemma => kernel_rfl) (by as_aux_lemma => kernel_rfl) (by as_aux_lemma => kernel_rfl) (fun _ _ _ h => h) (Or.inl ⟨by kernel_rfl, ?_⟩) hS ?_
            rotate_left
            · intro w hSw; obtain ⟨⟨p1, x0, z1⟩, ⟨y0, y1, y2⟩, -⟩ := HC.out _ hSw; go_simp
              first | done | with_reducible rfl
            refine wpAnyH_takeE (i := 33) (some 149) (v := ?_) rfl rfl (by as_aux_lemma => kernel_rfl) (by as_aux_lemma => kernel_rfl) (by as_aux_lemma => kernel_rfl) (fun _ _ _ h => h) (Or.inl ⟨by kernel_rfl, ?_⟩) hS ?_
            rotate_left
            · intro w hSw; obtain ⟨⟨p1, x0, z1⟩, ⟨y0, y1, y2⟩, -⟩ := HC.out _ hSw; go_simp
              first | done | with_reducible rfl
            (try simp only [Act.put, List.setIfInBounds_toArray, List.set_cons_zero, List.set_cons_succ])
            refine wpAnyH_takeE (i := 34) (some 150) (v := ?_) rfl rfl (by as_aux_lemma => kernel_rfl) (by as_aux_lemma => kernel_rfl) (by as_aux_lemma => kernel_rfl) (fun _ _ _ h => h) (Or.inl ⟨by kernel_rfl, ?_⟩) hS ?_
            rotate_left
            · intro w hSw; obtain ⟨⟨p1, x0, z1⟩, ⟨y0, y1, y2⟩, -⟩ := HC.out _ hSw; go_simp
              first | done | with_reducible rfl
            refine wpAnyH_takeE (i := 35) (some 151) (v := ?_) rfl rfl (by as_aux_lemma => kernel_rfl) (by as_aux_lemma => kernel_rfl) (by as_aux_lemma => kernel_rfl) (fun _ _ _ h => h) (Or.inl ⟨by kernel_rfl, ?_⟩) hS ?_
            rotate_left
            · intro w hSw; obtain ⟨⟨p1, x0, z1⟩, ⟨y0, y1, y2⟩, -⟩ := HC.out _ hSw; go_simp
              first | done | with_reducible rfl
            refine wpAnyH_takeE (i := 36) (some 152) (v := ?_) rfl rfl (by as_aux_lemma => kernel_rfl) (by as_aux_lemma => kernel_rfl) (by as_aux_lemma => kernel_rfl) (fun _ _ _ h => h) (Or.inl ⟨by kernel_rfl, ?_⟩) hS ?_
            rotate_left
            · intro w hSw; obtain ⟨⟨p1, x0, z1⟩, ⟨y0, y1, y2⟩, -⟩ := HC.out _ hSw; go_simp
              first | done | with_reducible rfl
            refine wpAnyH_takeE (i := 37) (some 153) (v := ?_) rfl rfl (by as_aux_lemma => kernel_rfl) (by as_aux_lemma => kernel_rfl) (by as_aux_lemma => kernel_rfl) (fun _ _ _ h => h) (Or.inl ⟨by kernel_rfl, ?_⟩) hS ?_
            rotate_left
            · intro w hSw; obtain ⟨⟨p1, x0, z1⟩, ⟨y0, y1, y2⟩, -⟩ := HC.out _ hSw; go_simp
              first | done | with_reducible rfl
            (try simp only [Act.put, List.setIfInBounds_toArray, List.set_cons_zero, List.set_cons_succ])
            refine wpAnyH_takeE (i := 38) (some 154) (v := ?_) rfl rfl (by as_aux_lemma => kernel_rfl) (by as_aux_lemma => kernel_rfl) (by as_aux_lemma => kernel_rfl) (fun _ _ _ h => h) (Or.inl ⟨by kernel_rfl, ?_⟩) hS ?_
            rotate_left
            · intro w hSw; obtain ⟨⟨p1, x0, z1⟩, ⟨y0, y1, y2⟩, -⟩ := HC.out _ hSw; go_simp
              first | done | with_reducible rfl
            refine wpAnyH_takeE (i := 39) (some 155) (v := ?_) rfl rfl (by as_aux_lemma => kernel_rfl) (by as_aux_lemma => kernel_rfl) (by as_aux_lemma => kernel_rfl) (fun _ _ _ h => h) (Or.inl ⟨by kernel_rfl, ?_⟩) hS ?_
            rotate_left
            · intro w hSw; obtain ⟨⟨p1, x0, z1⟩, ⟨y0, y1, y2⟩, -⟩ := HC.out _ hSw; go_simp
              first | done | with_reducible rfl
            refine wpAnyH_takeE (i := 40) (some 156) (v := ?_) rfl rfl (by as_aux_lemma => kernel_rfl) (by as_aux_lemma => kernel_rfl) (by as_aux_lemma => kernel_rfl) (fun _ _ _ h => h) (Or.inl ⟨by kernel_rfl, ?_⟩) hS ?_
            rotate_left
            · intro w hSw; obtain ⟨⟨p1, x0, z1⟩, ⟨y0, y1, y2⟩, -⟩ := HC.out _ hSw; go_simp
              first | done | with_reducible rfl
            refine wpAnyH_takeE (i := 41) (some 157) (v := ?_) rfl rfl (by as_aux_lemma => kernel_rfl) (by as_aux_lemma => kernel_rfl) (by as_aux_lemma => kernel_rfl) (fun _ _ _ h => h) (Or.inl ⟨by kernel_rfl, ?_⟩) hS ?_
            rotate_left
            · intro w hSw; obtain ⟨⟨p1, x0, z1⟩, ⟨y0, y1, y2⟩, -⟩ := HC.out _ hSw; go_simp
              first | done | with_reducible rfl
            (try simp only [Act.put, List.setIfInBounds_toArray, List.set_cons_zero, List.set_cons_succ])
            refine wpAnyH_takeE (i := 42) (some 158) (v := ?_) rfl rfl (by as_aux_lemma => kernel_rfl) (by as_aux_lemma => kernel_rfl) (by as_aux_lemma => kernel_rfl) (fun _ _ _ h => h) (Or.inl ⟨by kernel_rfl, ?_⟩) hS ?_
            rotate_left
            · intro w hSw; obtain ⟨⟨p1, x0, z1⟩, ⟨y0, y1, y2⟩, -⟩ := HC.out _ hSw; go_simp
              first | done | with_reducible rfl
            refine wpAnyH_takeE (i := 43) (some 159) (v := ?_) rfl rfl (by as_aux_lemma => kernel_rfl) (by as_aux_lemma => kernel_rfl) (by as_aux_lemma => kernel_rfl) (fun _ _ _ h => h) (Or.inl ⟨by kernel_rfl, ?_⟩) hS ?_
            rotate_left
            · intro w hSw; obtain ⟨⟨p1, x0, z1⟩, ⟨y0, y1, y2⟩, -⟩ := HC.out _ hSw; go_simp
              first | done | with_reducible rfl
            refine wpAnyH_takeE (i := 44) (some 160) (v := ?_) rfl rfl (by as_aux_lemma => kernel_rfl) (by as_aux_lemma => kernel_rfl) (by as_aux_lemma => kernel_rfl) (fun _ _ _ h => h) (Or.inl ⟨by kernel_rfl, ?_⟩) hS ?_
            rotate_left
            · intro w hSw; obtain ⟨⟨p1, x0, z1⟩, ⟨y0, y1, y2⟩, -⟩ := HC.out _ hSw; go_simp
              first | done | with_reducible rfl
            refine wpAnyH_takeE (i := 45) (some 161) (v := ?_) rfl rfl (by as_aux_lemma => kernel_rfl) (by as_aux_lemma => kernel_rfl) (by as_aux_lemma => kernel_rfl) (fun _ _ _ h => h) (Or.inl ⟨by kernel_rfl, ?_⟩) hS ?_
            rotate_left
            · intro w hSw; obtain ⟨⟨p1, x0, z1⟩, ⟨y0, y1, y2⟩, -⟩ := HC.out _ hSw; go_simp
              first | done | with_reducible rfl
            (try simp only [Act.put, List.setIfInBounds_toArray, List.set_cons_zero, List.set_cons_succ])
            refine wpAnyH_takeE (i := 46) (some 162) (v := ?_) rfl rfl (by as_aux_lemma => kernel_rfl) (by as_aux_lemma => kernel_rfl) (by as_aux_lemma => kernel_rfl) (fun _ _ _ h => h) (Or.inl ⟨by kernel_rfl, ?_⟩) hS ?_
            rotate_left
            · intro w hSw; obtain ⟨⟨p1, x0, z1⟩, ⟨y0, y1, y2⟩, -⟩ := HC.out _ hSw; go_simp
              first | done | with_reducible rfl
            refine wpAnyH_takeE (i := 47) (some 163) (v := ?_) rfl rfl (by as_aux_lemma => kernel_rfl) (by as_aux_lemma => kernel_rfl) (by as_aux_lemma => kernel_rfl) (fun _ _ _ h => h) (Or.inl ⟨by kernel_rfl, ?_⟩) hS ?_
            rotate_left
            · intro w hSw; obtain ⟨⟨p1, x0, z1⟩, ⟨y0, y1, y2⟩, -⟩ := HC.out _ hSw; go_simp
              first | done | with_reducible rfl
            refine wpAnyH_takeE (i := 48) (some 164) (v := ?_) rfl rfl (by as_aux_lemma => kernel_rfl) (by as_aux_lemma => kernel_rfl) (by as_aux_lemma => kernel_rfl) (fun _ _ _ h => h) (Or.inl ⟨by kernel_rfl, ?_⟩) hS ?_
            rotate_left
            · intro w hSw; obtain ⟨⟨p1, x0, z1⟩, ⟨y0, y1, y2⟩, -⟩ := HC.out _ hSw; go_simp
              first | done | with_reducible rfl
            refine wpAnyH_takeE (i := 49) (some 165) (v := ?_) rfl rfl (by as_aux_lemma => kernel_rfl) (by as_aux_lemma => kernel_rfl) (by as_aux_lemma => kernel_rfl) (fun _ _ _ h => h) (Or.inl ⟨by kernel_rfl, ?_⟩) hS ?_
            rotate_left
            · intro w hSw; obtain ⟨⟨p1, x0, z1⟩, ⟨y0, y1, y2⟩, -⟩ := HC.out _ hSw; go_simp
              first | done | with_reducible rfl
            (try simp only [Act.put, List.setIfInBounds_toArray, List.set_cons_zero, List.set_cons_succ])
            refine wpAnyH_takeE (i := 50) (some 166) (v := ?_) rfl rfl (by as_aux_lemma => kernel_rfl) (by as_aux_lemma => kernel_rfl) (by as_aux_lemma => kernel_rfl) (fun _ _ _ h => h) (Or.inl ⟨by kernel_rfl, ?_⟩) hS ?_
            rotate_left
            · intro w hSw; obtain ⟨⟨p1, x0, z1⟩, ⟨y0, y1, y2⟩, -⟩ := HC.out _ hSw; go_simp
              first | done | with_reducible rfl
            refine wpAnyH_takeE (i := 51) (some 167) (v := ?_) rfl rfl (by as_aux_lemma => kernel_rfl) (by as_aux_lemma => kernel_rfl) (by as_aux_lemma => kernel_rfl) (fun _ _ _ h => h) (Or.inl ⟨by kernel_rfl, ?_⟩) hS ?_
            rotate_left
            · intro w hSw; obtain ⟨⟨p1, x0, z1⟩, ⟨y0, y1, y2⟩, -⟩ := HC.out _ hSw; go_simp
              first | done | with_reducible rfl
            refine wpAnyH_takeE (i := 52) (some 168) (v := ?_) rfl rfl (by as_aux_lemma => kernel_rfl) (by as_aux_lemma => kernel_rfl) (by as_aux_lemma => kernel_rfl) (fun _ _ _ h => h) (Or.inl ⟨by kernel_rfl, ?_⟩) hS ?_
            rotate_left
            · intro w hSw; obtain ⟨⟨p1, x0, z1⟩, ⟨y0, y1, y2⟩, -⟩ := HC.out _ hSw; go_simp
              first | done | with_reducible rfl
            refine wpAnyH_takeE (i := 53) (some 169) (v := ?_) rfl rfl (by as_aux_lemma => kernel_rfl) (by as_aux_lemma => kernel_rfl) (by as_aux_lemma => kernel_rfl) (fun _ _ _ h => h) (Or.inl ⟨by kernel_rfl, ?_⟩) hS ?_
            rotate_left
            · intro w hSw; obtain ⟨⟨p1, x0, z1⟩, ⟨y0, y1, y2⟩, -⟩ := HC.out _ hSw; go_simp
              first | done | with_reducible rfl
            (try simp only [Act.put, List.setIfInBounds_toArray, List.set_cons_zero, List.set_cons_succ])
            refine wpAnyH_takeE (i := 54) (some 170) (v := ?_) rfl rfl (by as_aux_lemma => kernel_rfl) (by as_aux_lemma => kernel_rfl) (by as_aux_lemma => kernel_rfl) (fun _ _ _ h => h) (Or.inl ⟨by kernel_rfl, ?_⟩) hS ?_
            rotate_left
            · intro w hSw; obtain ⟨⟨p1, x0, z1⟩, ⟨y0, y1, y2⟩, -⟩ := HC.out _ hSw; go_simp
              first | done | with_reducible rfl
            refine wpAnyH_takeE (i := 55) (some 171) (v := ?_) rfl rfl (by as_aux_lemma => kernel_rfl) (by as_aux_lemma => kernel_rfl) (by as_aux_lemma => kernel_rfl) (fun _ _ _ h => h) (Or.inl ⟨by kernel_rfl, ?_⟩) hS ?_
            rotate_left
            · intro w hSw; obtain ⟨⟨p1, x0, z1⟩, ⟨y0, y1, y2⟩, -⟩ := HC.out _ hSw; go_simp
              first | done | with_reducible rfl
            refine wpAnyH_takeE (i := 56) (some 172) (v := ?_) rfl rfl (by as_aux_lemma => kernel_rfl) (by as_aux_lemma => kernel_rfl) (by as_aux_lemma => kernel_rfl) (fun _ _ _ h => h) (Or.inl ⟨by kernel_rfl, ?_⟩) hS ?_
            rotate_left
            · intro w hSw; obtain ⟨⟨p1, x0, z1⟩, ⟨y0, y1, y2⟩, -⟩ := HC.out _ hSw; go_simp
              first | done | with_reducible rfl
            refine wpAnyH_takeE (i := 57) (some 173) (v := ?_) rfl rfl (by as_aux_lemma => kernel_rfl) (by as_aux_lemma => kernel_rfl) (by as_aux_lemma => kernel_rfl) (fun _ _ _ h => h) (Or.inl ⟨by kernel_rfl, ?_⟩) hS ?_
            rotate_left
            · intro w hSw; obtain ⟨⟨p1, x0, z1⟩, ⟨y0, y1, y2⟩, -⟩ := HC.out _ hSw; go_simp
              first | done | with_reducible rfl
            (try simp only [Act.put, List.setIfInBounds_toArray, List.set_cons_zero, List.set_cons_succ])
            refine wpAnyH_takeE (i := 58) (some 174) (v := ?_) rfl rfl (by as_aux_lemma => kernel_rfl) (by as_aux_lemma => kernel_rfl) (by as_aux_lemma => kernel_rfl) (fun _ _ _ h => h) (Or.inl ⟨by kernel_rfl, ?_⟩) hS ?_
            rotate_left
            · intro w hSw; obtain ⟨⟨p1, x0, z1⟩, ⟨y0, y1, y2⟩, -⟩ := HC.out _ hSw; go_simp
              first | done | with_reducible rfl
            refine wpAnyH_takeE (i := 59) (some 175) (v := undef) rfl rfl (by as_aux_lemma => kernel_rfl) (by as_aux_lemma => kernel_rfl) (by as_aux_lemma => kernel_rfl) (fun _ _ _ h => h) (Or.inr ⟨by kernel_rfl, rfl⟩) hS ?_
            refine wpAnyH_takeE (i := 60) (some 176) (v := undef) rfl rfl (by as_aux_lemma => kernel_rfl) (by as_aux_lemma => kernel_rfl) (by as_aux_lemma => kernel_rfl) (fun _ _ _ h => h) (Or.inr ⟨by kernel_rfl, rfl⟩) hS ?_
            refine wpAnyH_takeE (i := 61) (some 177) (v := undef) rfl rfl (by as_aux_lemma => kernel_rfl) (by as_aux_lemma => kernel_rfl) (by as_aux_lemma => kernel_rfl) (fun _ _ _ h => h) (Or.inr ⟨by kernel_rfl, rfl⟩) hS ?_
            refine wpAnyH_takeE (i := 62) (some 178) (v := undef) rfl rfl (by as_aux_lemma => kernel_rfl) (by as_aux_lemma => kernel_rfl) (by as_aux_lemma => kernel_rfl) (fun _ _ _ h => h) (Or.inr ⟨by kernel_rfl, rfl⟩) hS ?_
            refine wpAnyH_takeE (i := 63) (some 179) (v := undef) rfl rfl (by as_aux_lemma => kernel_rfl) (by as_aux_lemma => kernel_rfl) (by as_aux_lemma => kernel_rfl) (fun _ _ _ h => h) (Or.inr ⟨by kernel_rfl, rfl⟩) hS ?_
            refine wpAnyH_takeE (i := 64) (some 180) (v := undef) rfl rfl (by as_aux_lemma => kernel_rfl) (by as_aux_lemma => kernel_rfl) (by as_aux_lemma => kernel_rfl) (fun _ _ _ h => h) (Or.inr ⟨by kernel_rfl, rfl⟩) hS ?_
            refine wpAnyH_takeE (i := 65) (some 181) (v := undef) rfl rfl (by as_aux_lemma => kernel_rfl) (by as_aux_lemma => kernel_rfl) (by as_aux_lemma => kernel_rfl) (fun _ _ _ h => h) (Or.inr ⟨by kernel_rfl, rfl⟩) hS ?_
            refine wpAnyH_takeE (i := 66) (some 182) (v := undef) rfl rfl (by as_aux_lemma => kernel_rfl) (by as_aux_lemma => kernel_rfl) (by as_aux_lemma => kernel_rfl) (fun _ _ _ h => h) (Or.inr ⟨by kernel_rfl, rfl⟩) hS ?_
            refine wpAnyH_takeE (i := 67) (some 183) (v := ?_) rfl rfl (by as_aux_lemma => kernel_rfl) (by as_aux_lemma => kernel_rfl) (by as_aux_lemma => kernel_rfl) (fun _ _ _ h => h) (Or.inl ⟨by kernel_rfl, ?_⟩) hS ?_
            rotate_left
            · intro w hSw; obtain ⟨⟨p1, x0, z1⟩, ⟨y0, y1, y2⟩, -⟩ := HC.out _ hSw; go_simp
              first | done | with_reducible rfl
            refine wpAnyH_takeE (i := 68) (some 184) (v := ?_) rfl rfl (by as_aux_lemma => kernel_rfl) (by as_aux_lemma => kernel_rfl) (by as_aux_lemma => kernel_rfl) (fun _ _ _ h => h) (Or.inl ⟨by kernel_rfl, ?_⟩) hS ?_
            rotate_left
            · intro w hSw; obtain ⟨⟨p1, x0, z1⟩, ⟨y0, y1, y2⟩, -⟩ := HC.out _ hSw; go_simp
              first | done | with_reducible rfl
            refine wpAnyH_done (by kernel_rfl) ?_ _
            (try simp only [Act.put, List.setIfInBounds_toArray, List.set_cons_zero, List.set_cons_succ])
            have HS8 := Lib.hid (HS4.out.on (HB7.out.trans (hS.mono HB7.out.size)))
            clear kf HC hS HB7 q7 q8 HPT HO HSf HGt HS4 HH5
            go_wp2
            rw [rounds_succ]
            have HN9 : Hid (OthSt W w8 B b d s now3 (i + 1)) := Lib.hid ⟨_, _, _, _, _, _, _, _, _, _, HS8.out, (HT3.out.trans HX.out.1), (HT4.out.trans HX.out.2.1), HT9.out.1, HT9.out.2, HT2.out⟩
            clear HX HV HFit HRow
            go_wp2
            go_roundw
            case rel => exact ⟨i + 1, now3, by omega, by go_num, HN9⟩
            case measure => simp [intOf]; omega
          · have b5 : ((tk : Int) == (tk : Int)) = true := by simp
            go_wp2_with fail
            have hk7 : PkR (w5.alloc (.cells #[.int .u8 0, .int .u16 (s : Int), .int .u16 (tk : Int), .int .i64 osq, .slice none 0 0, .slice none 0 0] 66)) w5.heap.size 0 (s : Int) (tk : Int) := ⟨osq, newE w5 _⟩
            have hb7 : Below w4.heap.size w4 (w5.alloc (.cells #[.int .u8 0, .int .u16 (s : Int), .int .u16 (tk : Int), .int .i64 osq, .slice none 0 0, .slice none 0 0] 66)) := HB6.out.2.2.alloc HB6.out.2.2.size _
            have hm7 : Mb (w5.alloc (.cells #[.int .u8 0, .int .u16 (s : Int), .int .u16 (tk : Int), .int .i64 osq, .slice none 0 0, .slice none 0 0] 66)) b6 ⟨mn, mst, mi⟩ := HB6.out.1.on ((Below.refl _ _).alloc (Nat.le_refl _) _)
            clear HB6 z0 z1 z2 x0 x1 x2 x3 x4 x5 x6 p1
            generalize w5.alloc (.cells #[.int .u8 0, .int .u16 (s : Int), .int .u16 (tk : Int), .int .i64 osq, .slice none 0 0, .slice none 0 0] 66) = w6 at *
            generalize w5.heap.size = b7 at *
            have HC : Hid (∀ u, Below w6.heap.size w6 u → (u.cell? ⟨B, 1, none⟩ = some (.pointer (some ⟨d, 0, none⟩)) ∧ u.cell? ⟨gg, 0, none⟩ = some (.int .u16 (tk : Int)) ∧ u.cell? ⟨b6, 1, none⟩ = some (.int .u8 mst)) ∧ (u.cell? ⟨b7, 0, none⟩ = some (.int .u8 0) ∧ u.cell? ⟨b7, 1, none⟩ = some (.int .u16 (s : Int)) ∧ u.cell? ⟨b7, 2, none⟩ = some (.int .u16 (tk : Int))) ∧ TabBlk u d KT) := Lib.hid (fun u g => by
              have g4 := hb7.trans (g.mono hb7.size)
              have hk := hk7.on g
              exact ⟨⟨(HPT.out _ g4).1, (HO.out _ g4).c0, (hm7.on g).c1⟩, ⟨hk.c0, hk.c1, hk.c2⟩, (HPT.out _ g4).2⟩)
            have HB7 := Lib.hid hb7
            have kf : ∀ w, (Instr.field 43 (.agg #[.int .u16 (s : Int), .int .u8 sst, .int .i64 si]) 0).run Try.prog w = .ok (.int .u16 (s : Int)) w := fun w => by kernel_rfl
            clear hk7 hb7 hm7
            refine wp_region_any (by kernel_rfl) ?_
            change wpAny _ _ _ _ _ _ _ (World.drew _)
            have hS : (fun w' : World => Below w6.heap.size w6 w') w6.drew := (Below.refl _ w6).drew
            refine wpAny_of_held (S := fun w' => Below w6.heap.size w6 w') _ _ _ _ ?_
            refine wpAnyH_takeE (i := 0) (some 116) (v := ?_) rfl rfl (by as_aux_lemma => kernel_rfl) (by as_aux_lemma => kernel_rfl) (by as_aux_lemma => kernel_rfl) (fun _ _ _ h => h) (Or.inl ⟨by kernel_rfl, ?_⟩) hS ?_
            rotate_left
            · intro w hSw; obtain ⟨⟨p1, x0, z1⟩, ⟨y0, y1, y2⟩, -⟩ := HC.out _ hSw; go_simp
              first | done | with_reducible rfl
            (try simp only [Act.put, List.setIfInBounds_toArray, List.set_cons_zero, List.set_cons_succ])
            refine wpAnyH_takeE (i := 1) (some 117) (v := ?_) rfl rfl (by as_aux_lemma => kernel_rfl) (by as_aux_lemma => kernel_rfl) (by as_aux_lemma => kernel_rfl) (fun _ _ _ h => h) (Or.inl ⟨by kernel_rfl, ?_⟩) hS ?_
            rotate_left
            · intro w hSw; obtain ⟨⟨p1, x0, z1⟩, ⟨y0, y1, y2⟩, -⟩ := HC.out _ hSw; go_simp
              first | done | with_reducible rfl
            refine wpAnyH_takeE (i := 2) (some 118) (v := ?_) rfl rfl (by as_aux_lemma => kernel_rfl) (by as_aux_lemma => kernel_rfl) (by as_aux_lemma => kernel_rfl) (fun _ _ _ h => h) (Or.inl ⟨by kernel_rfl, ?_⟩) hS ?_
            rotate_left
            · intro w hSw; obtain ⟨⟨p1, x0, z1⟩, ⟨y0, y1, y2⟩, -⟩ := HC.out _ hSw; go_simp
              first | done | with_reducible rfl
            refine wpAnyH_takeE (i := 3) (some 119) (v := ?_) rfl rfl (by as_aux_lemma => kernel_rfl) (by as_aux_lemma => kernel_rfl) (by as_aux_lemma => kernel_rfl) (fun _ _ _ h => h) (Or.inl ⟨by kernel_rfl, ?_⟩) hS ?_
            rotate_left
            · intro w hSw; obtain ⟨⟨p1, x0, z1⟩, ⟨y0, y1, y2⟩, -⟩ := HC.out _ hSw; go_simp
              first | done | with_reducible rfl
            refine wpAnyH_takeE (i := 4) (some 120) (v := ?_) rfl rfl (by as_aux_lemma => kernel_rfl) (by as_aux_lemma => kernel_rfl) (by as_aux_lemma => kernel_rfl) (fun _ _ _ h => h) (Or.inl ⟨by kernel_rfl, ?_⟩) hS ?_
            rotate_left
            · intro w hSw; obtain ⟨⟨p1, x0, z1⟩, ⟨y0, y1, y2⟩, -⟩ := HC.out _ hSw; go_simp
              first | done | with_reducible rfl
            (try simp only [Act.put, List.setIfInBounds_toArray, List.set_cons_zero, List.set_cons_succ])
            refine wpAnyH_takeE (i := 5) (some 121) (v := ?_) rfl rfl (by as_aux_lemma => kernel_rfl) (by as_aux_lemma => kernel_rfl) (by as_aux_lemma => kernel_rfl) (fun _ _ _ h => h) (Or.inl ⟨by kernel_rfl, ?_⟩) hS ?_
            rotate_left
            · intro w hSw; obtain ⟨⟨p1, x0, z1⟩, ⟨y0, y1, y2⟩, -⟩ := HC.out _ hSw; go_simp
              first | done | with_reducible rfl
            refine wpAnyH_takeE (i := 6) (some 122) (v := ?_) rfl rfl (by as_aux_lemma => kernel_rfl) (by as_aux_lemma => kernel_rfl) (by as_aux_lemma => kernel_rfl) (fun _ _ _ h => h) (Or.inl ⟨by kernel_rfl, ?_⟩) hS ?_
            rotate_left
            · intro w hSw; obtain ⟨⟨p1, x0, z1⟩, ⟨y0, y1, y2⟩, -⟩ := HC.out _ hSw; go_simp
              first | done | with_reducible rfl
            refine wpAnyH_takeE (i := 7) (some 123) (v := ?_) rfl rfl (by as_aux_lemma => kernel_rfl) (by as_aux_lemma => kernel_rfl) (by as_aux_lemma => kernel_rfl) (fun _ _ _ h => h) (Or.inl ⟨by kernel_rfl, ?_⟩) hS ?_
            rotate_left
            · intro w hSw; obtain ⟨⟨p1, x0, z1⟩, ⟨y0, y1, y2⟩, -⟩ := HC.out _ hSw; go_simp
              first | done | with_reducible rfl
            refine wpAnyH_takeE (i := 8) (some 124) (v := ?_) rfl rfl (by as_aux_lemma => kernel_rfl) (by as_aux_lemma => kernel_rfl) (by as_aux_lemma => kernel_rfl) (fun _ _ _ h => h) (Or.inl ⟨by kernel_rfl, ?_⟩) hS ?_
            rotate_left
            · intro w hSw; obtain ⟨⟨p1, x0, z1⟩, ⟨y0, y1, y2⟩, -⟩ := HC.out _ hSw; go_simp
              first | done | with_reducible rfl
            (try simp only [Act.put, List.setIfInBounds_toArray, List.set_cons_zero, List.set_cons_succ])
            refine wpAnyH_takeE (i := 9) (some 125) (v := ?_) rfl rfl (by as_aux_lemma => kernel_rfl) (by as_aux_lemma => kernel_rfl) (by as_aux_lemma => kernel_rfl) (fun _ _ _ h => h) (Or.inl ⟨by kernel_rfl, ?_⟩) hS ?_
            rotate_left
            · intro w hSw; obtain ⟨⟨p1, x0, z1⟩, ⟨y0, y1, y2⟩, -⟩ := HC.out _ hSw; go_simp
              first | done | with_reducible rfl
            refine wpAnyH_takeE (i := 10) (some 126) (v := ?_) rfl rfl (by as_aux_lemma => kernel_rfl) (by as_aux_lemma => kernel_rfl) (by as_aux_lemma => kernel_rfl) (fun _ _ _ h => h) (Or.inl ⟨by kernel_rfl, ?_⟩) hS ?_
            rotate_left
            · intro w hSw; obtain ⟨⟨p1, x0, z1⟩, ⟨y0, y1, y2⟩, -⟩ := HC.out _ hSw; go_simp
              first | done | with_reducible rfl
            refine wpAnyH_takeE (i := 11) (some 127) (v := ?_) rfl rfl (by as_aux_lemma => kernel_rfl) (by as_aux_lemma => kernel_rfl) (by as_aux_lemma => kernel_rfl) (fun _ _ _ h => h) (Or.inl ⟨by kernel_rfl, ?_⟩) hS ?_
            rotate_left
            · intro w hSw; obtain ⟨⟨p1, x0, z1⟩, ⟨y0, y1, y2⟩, -⟩ := HC.out _ hSw; go_simp
              first | done | with_reducible rfl
            refine wpAnyH_takeE (i := 12) (some 128) (v := ?_) rfl rfl (by as_aux_lemma => kernel_rfl) (by as_aux_lemma => kernel_rfl) (by as_aux_lemma => kernel_rfl) (fun _ _ _ h => h) (Or.inl ⟨by kernel_rfl, ?_⟩) hS ?_
            rotate_left
            · intro w hSw; obtain ⟨⟨p1, x0, z1⟩, ⟨y0, y1, y2⟩, -⟩ := HC.out _ hSw; go_simp
              first | done | with_reducible rfl
            (try simp only [Act.put, List.setIfInBounds_toArray, List.set_cons_zero, List.set_cons_succ])
            refine wpAnyH_takeE (i := 13) (some 129) (v := ?_) rfl rfl (by as_aux_lemma => kernel_rfl) (by as_aux_lemma => kernel_rfl) (by as_aux_lemma => kernel_rfl) (fun _ _ _ h => h) (Or.inl ⟨by kernel_rfl, ?_⟩) hS ?_
            rotate_left
            · intro w hSw; obtain ⟨⟨p1, x0, z1⟩, ⟨y0, y1, y2⟩, -⟩ := HC.out _ hSw; go_simp
              first | done | with_reducible rfl
            refine wpAnyH_takeE (i := 14) (some 130) (v := ?_) rfl rfl (by as_aux_lemma => kernel_rfl) (by as_aux_lemma => kernel_rfl) (by as_aux_lemma => kernel_rfl) (fun _ _ _ h => h) (Or.inl ⟨by kernel_rfl, ?_⟩) hS ?_
            rotate_left
            · intro w hSw; obtain ⟨⟨p1, x0, z1⟩, ⟨y0, y1, y2⟩, -⟩ := HC.out _ hSw; go_simp
              first | done | with_reducible rfl
            refine wpAnyH_takeE (i := 15) (some 131) (v := ?_) rfl rfl (by as_aux_lemma => kernel_rfl) (by as_aux_lemma => kernel_rfl) (by as_aux_lemma => kernel_rfl) (fun _ _ _ h => h) (Or.inl ⟨by kernel_rfl, ?_⟩) hS ?_
            rotate_left
            · intro w hSw; obtain ⟨⟨p1, x0, z1⟩, ⟨y0, y1, y2⟩, -⟩ := HC.out _ hSw; go_simp
              first | done | with_reducible rfl
            refine wpAnyH_takeE (i := 16) (some 132) (v := ?_) rfl rfl (by as_aux_lemma => kernel_rfl) (by as_aux_lemma => kernel_rfl) (by as_aux_lemma => kernel_rfl) (fun _ _ _ h => h) (Or.inl ⟨by kernel_rfl, ?_⟩) hS ?_
            rotate_left
            · intro w hSw; obtain ⟨⟨p1, x0, z1⟩, ⟨y0, y1, y2⟩, -⟩ := HC.out _ hSw; go_simp
              first | done | with_reducible rfl
            (try simp only [Act.put, List.setIfInBounds_toArray, List.set_cons_zero, List.set_cons_succ])
            refine wpAnyH_ready (rs := [17]) (by as_aux_lemma => kernel_rfl) (by simp) ?_
            refine AllReadyH.cons rfl (fun K hK => ?_) AllReadyH.nil
            go_simp
            go_wp2_with (go_at_call 23; refine (HSf.out _ (HC.out _ hS).2.2).mono ?_; rintro e w7 ⟨rfl, q7⟩; replace q7 := Lib.hid q7)
            refine hK.out _ _ ?_ (fun hS => ?_)
            · exact hS.trans (q7.out.mono hS.size)
            clear hK K
            refine wpAnyH_takeE (i := 18) (some 134) (v := ?_) rfl rfl (by as_aux_lemma => kernel_rfl) (by as_aux_lemma => kernel_rfl) (by as_aux_lemma => kernel_rfl) (fun _ _ _ h => h) (Or.inl ⟨by kernel_rfl, ?_⟩) hS ?_
            rotate_left
            · intro w hSw; obtain ⟨⟨p1, x0, z1⟩, ⟨y0, y1, y2⟩, -⟩ := HC.out _ hSw; go_simp
              first | done | with_reducible rfl
            refine wpAnyH_takeE (i := 19) (some 135) (v := ?_) rfl rfl (by as_aux_lemma => kernel_rfl) (by as_aux_lemma => kernel_rfl) (by as_aux_lemma => kernel_rfl) (fun _ _ _ h => h) (Or.inl ⟨by kernel_rfl, ?_⟩) hS ?_
            rotate_left
            · intro w hSw; obtain ⟨⟨p1, x0, z1⟩, ⟨y0, y1, y2⟩, -⟩ := HC.out _ hSw; go_simp
              first | done | with_reducible rfl
            refine wpAnyH_takeE (i := 20) (some 136) (v := ?_) rfl rfl (by as_aux_lemma => kernel_rfl) (by as_aux_lemma => kernel_rfl) (by as_aux_lemma => kernel_rfl) (fun _ _ _ h => h) (Or.inl ⟨by kernel_rfl, ?_⟩) hS ?_
            rotate_left
            · intro w hSw; obtain ⟨⟨p1, x0, z1⟩, ⟨y0, y1, y2⟩, -⟩ := HC.out _ hSw; go_simp
              first | done | with_reducible rfl
            refine wpAnyH_takeE (i := 21) (some 137) (v := ?_) rfl rfl (by as_aux_lemma => kernel_rfl) (by as_aux_lemma => kernel_rfl) (by as_aux_lemma => kernel_rfl) (fun _ _ _ h => h) (Or.inl ⟨by kernel_rfl, ?_⟩) hS ?_
            rotate_left
            · intro w hSw; obtain ⟨⟨p1, x0, z1⟩, ⟨y0, y1, y2⟩, -⟩ := HC.out _ hSw; go_simp
              first | done | with_reducible rfl
            (try simp only [Act.put, List.setIfInBounds_toArray, List.set_cons_zero, List.set_cons_succ])
            refine wpAnyH_takeE (i := 22) (some 138) (v := ?_) rfl rfl (by as_aux_lemma => kernel_rfl) (by as_aux_lemma => kernel_rfl) (by as_aux_lemma => kernel_rfl) (fun _ _ _ h => h) (Or.inl ⟨by kernel_rfl, ?_⟩) hS ?_
            rotate_left
            · intro w hSw; obtain ⟨⟨p1, x0, z1⟩, ⟨y0, y1, y2⟩, -⟩ := HC.out _ hSw; go_simp
              first | done | with_reducible rfl
            refine wpAnyH_takeE (i := 23) (some 139) (v := ?_) rfl rfl (by as_aux_lemma => kernel_rfl) (by as_aux_lemma => kernel_rfl) (by as_aux_lemma => kernel_rfl) (fun _ _ _ h => h) (Or.inl ⟨by kernel_rfl, ?_⟩) hS ?_
            rotate_left
            · intro w hSw; obtain ⟨⟨p1, x0, z1⟩, ⟨y0, y1, y2⟩, -⟩ := HC.out _ hSw; go_simp
              first | done | with_reducible rfl
            refine wpAnyH_takeE (i := 24) (some 140) (v := ?_) rfl rfl (by as_aux_lemma => kernel_rfl) (by as_aux_lemma => kernel_rfl) (by as_aux_lemma => kernel_rfl) (fun _ _ _ h => h) (Or.inl ⟨by kernel_rfl, ?_⟩) hS ?_
            rotate_left
            · intro w hSw; obtain ⟨⟨p1, x0, z1⟩, ⟨y0, y1, y2⟩, -⟩ := HC.out _ hSw; go_simp
              first | done | with_reducible rfl
            refine wpAnyH_takeE (i := 25) (some 141) (v := ?_) rfl rfl (by as_aux_lemma => kernel_rfl) (by as_aux_lemma => kernel_rfl) (by as_aux_lemma => kernel_rfl) (fun _ _ _ h => h) (Or.inl ⟨by kernel_rfl, ?_⟩) hS ?_
            rotate_left
            · intro w hSw; obtain ⟨⟨p1, x0, z1⟩, ⟨y0, y1, y2⟩, -⟩ := HC.out _ hSw; go_simp
              first | done | with_reducible rfl
            (try simp only [Act.put, List.setIfInBounds_toArray, List.set_cons_zero, List.set_cons_succ])
            refine wpAnyH_takeE (i := 26) (some 142) (v := ?_) rfl rfl (by as_aux_lemma => kernel_rfl) (by as_aux_lemma => kernel_rfl) (by as_aux_lemma => kernel_rfl) (fun _ _ _ h => h) (Or.inl ⟨by kernel_rfl, ?_⟩) hS ?_
            rotate_left
            · intro w hSw; obtain ⟨⟨p1, x0, z1⟩, ⟨y0, y1, y2⟩, -⟩ := HC.out _ hSw; go_simp
              first | done | with_reducible rfl
            refine wpAnyH_takeE (i := 27) (some 143) (v := ?_) rfl rfl (by as_aux_lemma => kernel_rfl) (by as_aux_lemma => kernel_rfl) (by as_aux_lemma => kernel_rfl) (fun _ _ _ h => h) (Or.inl ⟨by kernel_rfl, ?_⟩) hS ?_
            rotate_left
            · intro w hSw; obtain ⟨⟨p1, x0, z1⟩, ⟨y0, y1, y2⟩, -⟩ := HC.out _ hSw; go_simp
              first | done | with_reducible rfl
            refine wpAnyH_ready (rs := [28]) (by as_aux_lemma => kernel_rfl) (by simp) ?_
            refine AllReadyH.cons rfl (fun K hK => ?_) AllReadyH.nil
            go_simp
            go_wp2_with (go_at_call 23; refine (HSf.out _ (HC.out _ hS).2.2).mono ?_; rintro e w8 ⟨rfl, q8⟩; replace q8 := Lib.hid q8)
            refine hK.out _ _ ?_ (fun hS => ?_)
            · exact hS.trans (q8.out.mono hS.size)
            clear hK K
            refine wpAnyH_takeE (i := 29) (some 145) (v := ?_) rfl rfl (by as_aux_lemma => kernel_rfl) (by as_aux_lemma => kernel_rfl) (by as_aux_lemma => kernel_rfl) (fun _ _ _ h => h) (Or.inl ⟨by kernel_rfl, ?_⟩) hS ?_
            rotate_left
            · intro w hSw; obtain ⟨⟨p1, x0, z1⟩, ⟨y0, y1, y2⟩, -⟩ := HC.out _ hSw; go_simp
              first | done | with_reducible rfl
            refine wpAnyH_takeE (i := 30) (some 146) (v := ?_) rfl rfl (by as_aux_lemma => kernel_rfl) (by as_aux_lemma => kernel_rfl) (by as_aux_lemma => kernel_rfl) (fun _ _ _ h => h) (Or.inl ⟨by kernel_rfl, ?_⟩) hS ?_
            rotate_left
            · intro w hSw; obtain ⟨⟨p1, x0, z1⟩, ⟨y0, y1, y2⟩, -⟩ := HC.out _ hSw; go_simp
              first | done | with_reducible rfl
            (try simp only [Act.put, List.setIfInBounds_toArray, List.set_cons_zero, List.set_cons_succ])
            refine wpAnyH_takeE (i := 31) (some 147) (v := ?_) rfl rfl (by as_aux_lemma => kernel_rfl) (by as_aux_lemma => kernel_rfl) (by as_aux_lemma => kernel_rfl) (fun _ _ _ h => h) (Or.inl ⟨by kernel_rfl, ?_⟩) hS ?_
            rotate_left
            · intro w hSw; obtain ⟨⟨p1, x0, z1⟩, ⟨y0, y1, y2⟩, -⟩ := HC.out _ hSw; go_simp
              first | done | with_reducible rfl
            refine wpAnyH_takeE (i := 32) (some 148) (v := ?_) rfl rfl (by as_aux_lemma => kernel_rfl) (by as_aux_lemma => kernel_rfl) (by as_aux_lemma => kernel_rfl) (fun _ _ _ h => h) (Or.inl ⟨by kernel_rfl, ?_⟩) hS ?_
            rotate_left
            · intro w hSw; obtain ⟨⟨p1, x0, z1⟩, ⟨y0, y1, y2⟩, -⟩ := HC.out _ hSw; go_simp
              first | done | with_reducible rfl
            refine wpAnyH_takeE (i := 33) (some 149) (v := ?_) rfl rfl (by as_aux_lemma => kernel_rfl) (by as_aux_lemma => kernel_rfl) (by as_aux_lemma => kernel_rfl) (fun _ _ _ h => h) (Or.inl ⟨by kernel_rfl, ?_⟩) hS ?_
            rotate_left
            · intro w hSw; obtain ⟨⟨p1, x0, z1⟩, ⟨y0, y1, y2⟩, -⟩ := HC.out _ hSw; go_simp
              first | done | with_reducible rfl
            refine wpAnyH_takeE (i := 34) (some 150) (v := ?_) rfl rfl (by as_aux_lemma => kernel_rfl) (by as_aux_lemma => kernel_rfl) (by as_aux_lemma => kernel_rfl) (fun _ _ _ h => h) (Or.inl ⟨by kernel_rfl, ?_⟩) hS ?_
            rotate_left
            · intro w hSw; obtain ⟨⟨p1, x0, z1⟩, ⟨y0, y1, y2⟩, -⟩ := HC.out _ hSw; go_simp
              first | done | with_reducible rfl
            (try simp only [Act.put, List.setIfInBounds_toArray, List.set_cons_zero, List.set_cons_succ])
            refine wpAnyH_takeE (i := 35) (some 151) (v := ?_) rfl rfl (by as_aux_lemma => kernel_rfl) (by as_aux_lemma => kernel_rfl) (by as_aux_lemma => kernel_rfl) (fun _ _ _ h => h) (Or.inl ⟨by kernel_rfl, ?_⟩) hS ?_
            rotate_left
            · intro w hSw; obtain ⟨⟨p1, x0, z1⟩, ⟨y0, y1, y2⟩, -⟩ := HC.out _ hSw; go_simp
              first | done | with_reducible rfl
            refine wpAnyH_takeE (i := 36) (some 152) (v := ?_) rfl rfl (by as_aux_lemma => kernel_rfl) (by as_aux_lemma => kernel_rfl) (by as_aux_lemma => kernel_rfl) (fun _ _ _ h => h) (Or.inl ⟨by kernel_rfl, ?_⟩) hS ?_
            rotate_left
            · intro w hSw; obtain ⟨⟨p1, x0, z1⟩, ⟨y0, y1, y2⟩, -⟩ := HC.out _ hSw; go_simp
              first | done | with_reducible rfl
            refine wpAnyH_takeE (i := 37) (some 153) (v := ?_) rfl rfl (by as_aux_lemma => kernel_rfl) (by as_aux_lemma => kernel_rfl) (by as_aux_lemma => kernel_rfl) (fun _ _ _ h => h) (Or.inl ⟨by kernel_rfl, ?_⟩) hS ?_
            rotate_left
            · intro w hSw; obtain ⟨⟨p1, x0, z1⟩, ⟨y0, y1, y2⟩, -⟩ := HC.out _ hSw; go_simp
              first | done | with_reducible rfl
            refine wpAnyH_takeE (i := 38) (some 154) (v := ?_) rfl rfl (by as_aux_lemma => kernel_rfl) (by as_aux_lemma => kernel_rfl) (by as_aux_lemma => kernel_rfl) (fun _ _ _ h => h) (Or.inl ⟨by kernel_rfl, ?_⟩) hS ?_
            rotate_left
            · intro w hSw; obtain ⟨⟨p1, x0, z1⟩, ⟨y0, y1, y2⟩, -⟩ := HC.out _ hSw; go_simp
              first | done | with_reducible rfl
            (try simp only [Act.put, List.setIfInBounds_toArray, List.set_cons_zero, List.set_cons_succ])
            refine wpAnyH_takeE (i := 39) (some 155) (v := ?_) rfl rfl (by as_aux_lemma => kernel_rfl) (by as_aux_lemma => kernel_rfl) (by as_aux_lemma => kernel_rfl) (fun _ _ _ h => h) (Or.inl ⟨by kernel_rfl, ?_⟩) hS ?_
            rotate_left
            · intro w hSw; obtain ⟨⟨p1, x0, z1⟩, ⟨y0, y1, y2⟩, -⟩ := HC.out _ hSw; go_simp
              first | done | with_reducible rfl
            refine wpAnyH_takeE (i := 40) (some 156) (v := ?_) rfl rfl (by as_aux_lemma => kernel_rfl) (by as_aux_lemma => kernel_rfl) (by as_aux_lemma => kernel_rfl) (fun _ _ _ h => h) (Or.inl ⟨by kernel_rfl, ?_⟩) hS ?_
            rotate_left
            · intro w hSw; obtain ⟨⟨p1, x0, z1⟩, ⟨y0, y1, y2⟩, -⟩ := HC.out _ hSw; go_simp
              first | done | with_reducible rfl
            refine wpAnyH_takeE (i := 41) (some 157) (v := ?_) rfl rfl (by as_aux_lemma => kernel_rfl) (by as_aux_lemma => kernel_rfl) (by as_aux_lemma => kernel_rfl) (fun _ _ _ h => h) (Or.inl ⟨by kernel_rfl, ?_⟩) hS ?_
            rotate_left
            · intro w hSw; obtain ⟨⟨p1, x0, z1⟩, ⟨y0, y1, y2⟩, -⟩ := HC.out _ hSw; go_simp
              first | done | with_reducible rfl
            refine wpAnyH_takeE (i := 42) (some 158) (v := ?_) rfl rfl (by as_aux_lemma => kernel_rfl) (by as_aux_lemma => kernel_rfl) (by as_aux_lemma => kernel_rfl) (fun _ _ _ h => h) (Or.inl ⟨by kernel_rfl, ?_⟩) hS ?_
            rotate_left
            · intro w hSw; obtain ⟨⟨p1, x0, z1⟩, ⟨y0, y1, y2⟩, -⟩ := HC.out _ hSw; go_simp
              first | done | with_reducible rfl
            (try simp only [Act.put, List.setIfInBounds_toArray, List.set_cons_zero, List.set_cons_succ])
            refine wpAnyH_takeE (i := 43) (some 159) (v := ?_) rfl rfl (by as_aux_lemma => kernel_rfl) (by as_aux_lemma => kernel_rfl) (by as_aux_lemma => kernel_rfl) (fun _ _ _ h => h) (Or.inl ⟨by kernel_rfl, ?_⟩) hS ?_
            rotate_left
            · intro w hSw; obtain ⟨⟨p1, x0, z1⟩, ⟨y0, y1, y2⟩, -⟩ := HC.out _ hSw; go_simp
              first | done | with_reducible rfl
            refine wpAnyH_takeE (i := 44) (some 160) (v := undef) rfl rfl (by as_aux_lemma => kernel_rfl) (by as_aux_lemma => kernel_rfl) (by as_aux_lemma => kernel_rfl) (fun _ _ _ h => h) (Or.inr ⟨by kernel_rfl, rfl⟩) hS ?_
            refine wpAnyH_takeE (i := 45) (some 161) (v := undef) rfl rfl (by as_aux_lemma => kernel_rfl) (by as_aux_lemma => kernel_rfl) (by as_aux_lemma => kernel_rfl) (fun _ _ _ h => h) (Or.inr ⟨by kernel_rfl, rfl⟩) hS ?_
            refine wpAnyH_takeE (i := 46) (some 162) (v := undef) rfl rfl (by as_aux_lemma => kernel_rfl) (by as_aux_lemma => kernel_rfl) (by as_aux_lemma => kernel_rfl) (fun _ _ _ h => h) (Or.inr ⟨by kernel_rfl, rfl⟩) hS ?_
            refine wpAnyH_takeE (i := 47) (some 163) (v := undef) rfl rfl (by as_aux_lemma => kernel_rfl) (by as_aux_lemma => kernel_rfl) (by as_aux_lemma => kernel_rfl) (fun _ _ _ h => h) (Or.inr ⟨by kernel_rfl, rfl⟩) hS ?_
            refine wpAnyH_takeE (i := 48) (some 164) (v := undef) rfl rfl (by as_aux_lemma => kernel_rfl) (by as_aux_lemma => kernel_rfl) (by as_aux_lemma => kernel_rfl) (fun _ _ _ h => h) (Or.inr ⟨by kernel_rfl, rfl⟩) hS ?_
            refine wpAnyH_takeE (i := 49) (some 165) (v := undef) rfl rfl (by as_aux_lemma => kernel_rfl) (by as_aux_lemma => kernel_rfl) (by as_aux_lemma => kernel_rfl) (fun _ _ _ h => h) (Or.inr ⟨by kernel_rfl, rfl⟩) hS ?_
            refine wpAnyH_takeE (i := 50) (some 166) (v := undef) rfl rfl (by as_aux_lemma => kernel_rfl) (by as_aux_lemma => kernel_rfl) (by as_aux_lemma => kernel_rfl) (fun _ _ _ h => h) (Or.inr ⟨by kernel_rfl, rfl⟩) hS ?_
            refine wpAnyH_takeE (i := 51) (some 167) (v := undef) rfl rfl (by as_aux_lemma => kernel_rfl) (by as_aux_lemma => kernel_rfl) (by as_aux_lemma => kernel_rfl) (fun _ _ _ h => h) (Or.inr ⟨by kernel_rfl, rfl⟩) hS ?_
            refine wpAnyH_takeE (i := 52) (some 168) (v := ?_) rfl rfl (by as_aux_lemma => kernel_rfl) (by as_aux_lemma => kernel_rfl) (by as_aux_lemma => kernel_rfl) (fun _ _ _ h => h) (Or.inl ⟨by kernel_rfl, ?_⟩) hS ?_
            rotate_left
            · intro w hSw; obtain ⟨⟨p1, x0, z1⟩, ⟨y0, y1, y2⟩, -⟩ := HC.out _ hSw; go_simp
              first | done | with_reducible rfl
            refine wpAnyH_takeE (i := 53) (some 169) (v := ?_) rfl rfl (by as_aux_lemma => kernel_rfl) (by as_aux_lemma => kernel_rfl) (by as_aux_lemma => kernel_rfl) (fun _ _ _ h => h) (Or.inl ⟨by kernel_rfl, ?_⟩) hS ?_
            rotate_left
            · intro w hSw; obtain ⟨⟨p1, x0, z1⟩, ⟨y0, y1, y2⟩, -⟩ := HC.out _ hSw; go_simp
              first | done | with_reducible rfl
            refine wpAnyH_takeE (i := 54) (some 170) (v := ?_) rfl rfl (by as_aux_lemma => kernel_rfl) (by as_aux_lemma => kernel_rfl) (by as_aux_lemma => kernel_rfl) (fun _ _ _ h => h) (Or.inl ⟨by kernel_rfl, ?_⟩) hS ?_
            rotate_left
            · intro w hSw; obtain ⟨⟨p1, x0, z1⟩, ⟨y0, y1, y2⟩, -⟩ := HC.out _ hSw; go_simp
              first | done | with_reducible rfl
            (try simp only [Act.put, List.setIfInBounds_toArray, List.set_cons_zero, List.set_cons_succ])
            refine wpAnyH_takeE (i := 55) (some 171) (v := ?_) rfl rfl (by as_aux_lemma => kernel_rfl) (by as_aux_lemma => kernel_rfl) (by as_aux_lemma => kernel_rfl) (fun _ _ _ h => h) (Or.inl ⟨by kernel_rfl, ?_⟩) hS ?_
            rotate_left
            · intro w hSw; obtain ⟨⟨p1, x0, z1⟩, ⟨y0, y1, y2⟩, -⟩ := HC.out _ hSw; go_simp
              first | done | with_reducible rfl
            refine wpAnyH_takeE (i := 56) (some 172) (v := ?_) rfl rfl (by as_aux_lemma => kernel_rfl) (by as_aux_lemma => kernel_rfl) (by as_aux_lemma => kernel_rfl) (fun _ _ _ h => h) (Or.inl ⟨by kernel_rfl, ?_⟩) hS ?_
            rotate_left
            · intro w hSw; obtain ⟨⟨p1, x0, z1⟩, ⟨y0, y1, y2⟩, -⟩ := HC.out _ hSw; go_simp
              first | done | with_reducible rfl
            refine wpAnyH_takeE (i := 57) (some 173) (v := ?_) rfl rfl (by as_aux_lemma => kernel_rfl) (by as_aux_lemma => kernel_rfl) (by as_aux_lemma => kernel_rfl) (fun _ _ _ h => h) (Or.inl ⟨by kernel_rfl, ?_⟩) hS ?_
            rotate_left
            · intro w hSw; obtain ⟨⟨p1, x0, z1⟩, ⟨y0, y1, y2⟩, -⟩ := HC.out _ hSw; go_simp
              first | done | with_reducible rfl
            refine wpAnyH_takeE (i := 58) (some 174) (v := ?_) rfl rfl (by as_aux_lemma => kernel_rfl) (by as_aux_lemma => kernel_rfl) (by as_aux_lemma => kernel_rfl) (fun _ _ _ h => h) (Or.inl ⟨by kernel_rfl, ?_⟩) hS ?_
            rotate_left
            · intro w hSw; obtain ⟨⟨p1, x0, z1⟩, ⟨y0, y1, y2⟩, -⟩ := HC.out _ hSw; go_simp
              first | done | with_reducible rfl
            (try simp only [Act.put, List.setIfInBounds_toArray, List.set_cons_zero, List.set_cons_succ])
            refine wpAnyH_takeE (i := 59) (some 175) (v := ?_) rfl rfl (by as_aux_lemma => kernel_rfl) (by as_aux_lemma => kernel_rfl) (by as_aux_lemma => kernel_rfl) (fun _ _ _ h => h) (Or.inl ⟨by kernel_rfl, ?_⟩) hS ?_
            rotate_left
            · intro w hSw; obtain ⟨⟨p1, x0, z1⟩, ⟨y0, y1, y2⟩, -⟩ := HC.out _ hSw; go_simp
              first | done | with_reducible rfl
            refine wpAnyH_takeE (i := 60) (some 176) (v := ?_) rfl rfl (by as_aux_lemma => kernel_rfl) (by as_aux_lemma => kernel_rfl) (by as_aux_lemma => kernel_rfl) (fun _ _ _ h => h) (Or.inl ⟨by kernel_rfl, ?_⟩) hS ?_
            rotate_left
            · intro w hSw; obtain ⟨⟨p1, x0, z1⟩, ⟨y0, y1, y2⟩, -⟩ := HC.out _ hSw; go_simp
              first | done | with_reducible rfl
            refine wpAnyH_takeE (i := 61) (some 177) (v := ?_) rfl rfl (by as_aux_lemma => kernel_rfl) (by as_aux_lemma => kernel_rfl) (by as_aux_lemma => kernel_rfl) (fun _ _ _ h => h) (Or.inl ⟨by kernel_rfl, ?_⟩) hS ?_
            rotate_left
            · intro w hSw; obtain ⟨⟨p1, x0, z1⟩, ⟨y0, y1, y2⟩, -⟩ := HC.out _ hSw; go_simp
              first | done | with_reducible rfl
            refine wpAnyH_takeE (i := 62) (some 178) (v := ?_) rfl rfl (by as_aux_lemma => kernel_rfl) (by as_aux_lemma => kernel_rfl) (by as_aux_lemma => kernel_rfl) (fun _ _ _ h => h) (Or.inl ⟨by kernel_rfl, ?_⟩) hS ?_
            rotate_left
            · intro w hSw; obtain ⟨⟨p1, x0, z1⟩, ⟨y0, y1, y2⟩, -⟩ := HC.out _ hSw; go_simp
              first | done | with_reducible rfl
            (try simp only [Act.put, List.setIfInBounds_toArray, List.set_cons_zero, List.set_cons_succ])
            refine wpAnyH_takeE (i := 63) (some 179) (v := ?_) rfl rfl (by as_aux_lemma => kernel_rfl) (by as_aux_lemma => kernel_rfl) (by as_aux_lemma => kernel_rfl) (fun _ _ _ h => h) (Or.inl ⟨by kernel_rfl, ?_⟩) hS ?_
            rotate_left
            · intro w hSw; obtain ⟨⟨p1, x0, z1⟩, ⟨y0, y1, y2⟩, -⟩ := HC.out _ hSw; go_simp
              first | done | with_reducible rfl
            refine wpAnyH_takeE (i := 64) (some 180) (v := ?_) rfl rfl (by as_aux_lemma => kernel_rfl) (by as_aux_lemma => kernel_rfl) (by as_aux_lemma => kernel_rfl) (fun _ _ _ h => h) (Or.inl ⟨by kernel_rfl, ?_⟩) hS ?_
            rotate_left
            · intro w hSw; obtain ⟨⟨p1, x0, z1⟩, ⟨y0, y1, y2⟩, -⟩ := HC.out _ hSw; go_simp
              first | done | with_reducible rfl
            refine wpAnyH_takeE (i := 65) (some 181) (v := ?_) rfl rfl (by as_aux_lemma => kernel_rfl) (by as_aux_lemma => kernel_rfl) (by as_aux_lemma => kernel_rfl) (fun _ _ _ h => h) (Or.inl ⟨by kernel_rfl, ?_⟩) hS ?_
            rotate_left
            · intro w hSw; obtain ⟨⟨p1, x0, z1⟩, ⟨y0, y1, y2⟩, -⟩ := HC.out _ hSw; go_simp
              first | done | with_reducible rfl
            refine wpAnyH_takeE (i := 66) (some 182) (v := ?_) rfl rfl (by as_aux_lemma => kernel_rfl) (by as_aux_lemma => kernel_rfl) (by as_aux_lemma => kernel_rfl) (fun _ _ _ h => h) (Or.inl ⟨by kernel_rfl, ?_⟩) hS ?_
            rotate_left
            · intro w hSw; obtain ⟨⟨p1, x0, z1⟩, ⟨y0, y1, y2⟩, -⟩ := HC.out _ hSw; go_simp
              first | done | with_reducible rfl
            (try simp only [Act.put, List.setIfInBounds_toArray, List.set_cons_zero, List.set_cons_succ])
            refine wpAnyH_takeE (i := 67) (some 183) (v := ?_) rfl rfl (by as_aux_lemma => kernel_rfl) (by as_aux_lemma => kernel_rfl) (by as_aux_lemma => kernel_rfl) (fun _ _ _ h => h) (Or.inl ⟨by kernel_rfl, ?_⟩) hS ?_
            rotate_left
            · intro w hSw; obtain ⟨⟨p1, x0, z1⟩, ⟨y0, y1, y2⟩, -⟩ := HC.out _ hSw; go_simp
              first | done | with_reducible rfl
            refine wpAnyH_takeE (i := 68) (some 184) (v := ?_) rfl rfl (by as_aux_lemma => kernel_rfl) (by as_aux_lemma => kernel_rfl) (by as_aux_lemma => kernel_rfl) (fun _ _ _ h => h) (Or.inl ⟨by kernel_rfl, ?_⟩) hS ?_
            rotate_left
            · intro w hSw; obtain ⟨⟨p1, x0, z1⟩, ⟨y0, y1, y2⟩, -⟩ := HC.out _ hSw; go_simp
              first | done | with_reducible rfl
            refine wpAnyH_done (by kernel_rfl) ?_ _
            (try simp only [Act.put, List.setIfInBounds_toArray, List.set_cons_zero, List.set_cons_succ])
            have HS8 := Lib.hid (HS4.out.on (HB7.out.trans (hS.mono HB7.out.size)))
            clear kf HC hS HB7 q7 q8 HPT HO HSf HGt HS4 HH5
            go_wp2
            rw [rounds_succ]
            have HN9 : Hid (OthSt W w8 B b d s now3 (i + 1)) := Lib.hid ⟨_, _, _, _, _, _, _, _, _, _, HS8.out, (HT3.out.trans HX.out.1), (HT4.out.trans HX.out.2.1), HT9.out.1, HT9.out.2, HT2.out⟩
            clear HX HV HFit HRow
            go_wp2
            go_roundw
            case rel => exact ⟨i + 1, now3, by omega, by go_num, HN9⟩
            case measure => simp [intOf]; omega
    have kgt : (1 : Int) < (kk : Int) := by omega
    match kk, hk5, hk1 with
    | 0, _, h => exact absurd (by decide) h
    | 1, _, h => exact absurd (by decide) h
    | 2, _, _ =>
      have HD := Lib.hid (pbdo_ack W w2 B b d P T R U now a nn c x y z HS2.out A HKK.out ⟨HFit.out.n.1, HFit.out.s.1⟩)
      go_wp2_with (go_at_call 11; refine HD.out.mono ?_; rintro e w3 ⟨rfl, s3⟩; replace s3 := Lib.hid s3; refine Hid.out ?_)
      refine Lib.hid ?_
      clear HD HS2 p0 e0 e1 e2 e3 e4 e5 e6
      have HN9 : Hid (OthSt W w3 B b d s now (i + 1)) := Lib.hid ⟨_, _, _, _, _, _, _, _, _, _, s3.out, ((ackO_same P A.m.n A.s).1.trans HX.out.1), HX.out.2.1, HX.out.2.2.1, HV.out, ((ackO_same _ _ _).2.2 HX.out.2.2.2.2)⟩
      clear HX HV HFit HRow
      go_wp2
      go_roundw
      case rel => exact ⟨i + 1, now, by omega, by go_num, HN9⟩
      case measure => simp [intOf]; omega
    | 3, _, _ =>
      have HD := Lib.hid (pbdo_watch W w2 B b d P T R U now a nn c x y z HS2.out A HKK.out ⟨HFit.out.n.1, HFit.out.s.1⟩)
      go_wp2_with (go_at_call 11; refine HD.out.mono ?_; rintro e w3 ⟨a', n', c', rfl, s3⟩; replace s3 := Lib.hid s3; refine Hid.out ?_)
      refine Lib.hid ?_
      clear HD HS2 p0 e0 e1 e2 e3 e4 e5 e6
      have HN9 : Hid (OthSt W w3 B b d s now (i + 1)) := Lib.hid ⟨_, _, _, _, _, _, _, _, _, _, s3.out, ((watchP_same P A.m now).1.trans HX.out.1), HX.out.2.1, HX.out.2.2.1, HV.out, (watchO_self HX.out.2.2.2.2 _ _)⟩
      clear HX HV HFit HRow
      go_wp2
      go_roundw
      case rel => exact ⟨i + 1, now, by omega, by go_num, HN9⟩
      case measure => simp [intOf]; omega
    | 4, _, _ =>
      have HD := Lib.hid (pbdo_hear W w2 B b d P T R U now a nn c x y z HS2.out A HKK.out ⟨HFit.out.n.1, HFit.out.s.1⟩)
      go_wp2_with (go_at_call 11; refine HD.out.mono ?_; rintro e w3 ⟨x', y', z', rfl, s3⟩; replace s3 := Lib.hid s3; refine Hid.out ?_)
      refine Lib.hid ?_
      clear HD HS2 p0 e0 e1 e2 e3 e4 e5 e6
      have HN9 : Hid (OthSt W w3 B b d s now (i + 1)) := Lib.hid ⟨_, _, _, _, _, _, _, _, _, _, s3.out, HX.out.1, ((hearB_s T A.m).trans HX.out.2.1), HX.out.2.2.1, HV.out, HX.out.2.2.2.2⟩
      clear HX HV HFit HRow
      go_wp2
      go_roundw
      case rel => exact ⟨i + 1, now, by omega, by go_num, HN9⟩
      case measure => simp [intOf]; omega

end Go.Proofs.Ytnoconampcemoaa
