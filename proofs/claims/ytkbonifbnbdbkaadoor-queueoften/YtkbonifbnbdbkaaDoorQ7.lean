/-
  Whether an entry is news; slices.Delete at the last of thirty-three items.
-/
import Derived.Test.YtkbonifbnbdbkaaDoorQ6
namespace Go.Proofs.YtkbonifbnbdbkaaDoor
open Go.RowKit

set_option maxRecDepth 100000 in
set_option maxHeartbeats 4000000 in
theorem idxQ_any (B c : Nat) (a : Option Addr) (L : List Itm) (pr : Itm → Bool) (f : Nat) (lb : Array Value) (eg : ∀ args w, (callFunc f args).run Tryd.prog w = .ok (.enter f args) w) (w : World) (h : OwnI w B a c L) (n : Nat) (hn : n = L.length) (hl : n ≤ 1000)
    (hp : ∀ W, Below w.heap.size w W → ∀ x : Itm, Calls Tryd.prog f (#[.agg #[.string x.e.k, .int .i64 x.e.t, .int .u16 x.e.o, .string x.e.v, .int .i64 x.e.u, .int .i64 x.s, .int .i64 x.q]] ++ lb) W fun e w' => e = .returned (.bool (pr x)) ∧ Below W.heap.size W w') :
    Calls Tryd.prog 51 #[.slice a n c, .func (.func f) #[] lb] w fun e w' => (∃ r : Int, e = .returned (.int .i64 r) ∧ decide (0 ≤ r) = L.any pr) ∧ Below w.heap.size w w' := by
  have HN := Lib.hid hn
  have HE := Lib.hid h
  have HP := Lib.hid hp
  clear hn h hp
  go_enter Tryd.func51, Tryd.ntmps51
  go_wp2
  go_loopw [8] (fun i wr => ∃ k : Nat, k ≤ n ∧ i = .int .i64 k ∧ Hid (∀ j (hj : j < L.length), j < k → pr L[j] = false) ∧ Hid (Below w.heap.size w wr)) (fun i _ => n - (intOf i).toNat)
  case atStart => exact ⟨0, Nat.zero_le _, rfl, Lib.hid (fun j _ h => by omega), Lib.hid (Below.refl _ _)⟩
  case round =>
    obtain ⟨k, hk, rfl, HF, HB⟩ := hrel
    by_cases hlt : k < n
    · have hkl : (k : Int) < (n : Int) := by omega
      have hkx : k < L.length := by have := HN.out; omega
      obtain ⟨g, rfl⟩ := HE.out.there (by omega)
      obtain ⟨r0, r1, r2, r3, r4, r5, r6⟩ := (HE.out.on HB.out).row k hkx
      have HC := Lib.hid (HP.out wr HB.out L[k])
      have HS : Hid (pr L[k] = false → ∀ j (hj : j < L.length), j < k + 1 → pr L[j] = false) := Lib.hid (fun h j hj hjk => by
        by_cases e : j = k
        · subst e; exact h
        · exact HF.out j hj (by omega))
      have HT : Hid (pr L[k] = true → L.any pr = true) := Lib.hid (fun h => List.any_eq_true.2 ⟨_, List.getElem_mem hkx, h⟩)
      generalize pr L[k] = q at *
      generalize L[k] = x at *
      obtain ⟨⟨kx, tx, ox, vx, ux⟩, sx, qx⟩ := x
      dsimp only at r0 r1 r2 r3 r4 r5 r6 HC
      clear hkx HF
      cases q with
      | true =>
        go_wp2_with (go_at_fn f; refine HC.out.mono ?_; rintro e w2 ⟨rfl, q2⟩; refine Hid.out ?_)
        refine Lib.hid ?_
        have HQ := Lib.hid (And.intro (HT.out (by simp)) (HB.out.trans (q2.mono HB.out.size)))
        clear q2 r0 r1 r2 r3 r4 r5 r6 HC HS HT HB
        go_wp2
        go_ret
        exact ⟨⟨k, rfl, by rw [HQ.out.1]; exact decide_eq_true (by omega)⟩, HQ.out.2⟩
      | false =>
        go_wp2_with (go_at_fn f; refine HC.out.mono ?_; rintro e w2 ⟨rfl, q2⟩; refine Hid.out ?_)
        refine Lib.hid ?_
        have HQ := Lib.hid (HB.out.trans (q2.mono HB.out.size))
        have HS2 := Lib.hid (HS.out (by simp))
        clear q2 r0 r1 r2 r3 r4 r5 r6 HC HS HT HB
        go_wp2
        go_roundw
        case rel => exact ⟨k + 1, by omega, by go_num, HS2, HQ⟩
        case measure => simp [intOf]; omega
    · have hkl : ¬ (k : Int) < (n : Int) := by omega
      have HQ : Hid (L.any pr = false ∧ Below w.heap.size w wr) := Lib.hid ⟨List.any_eq_false.2 (fun x hx => by
        obtain ⟨j, hj, rfl⟩ := List.getElem_of_mem hx
        rw [HF.out j hj (by have := HN.out; omega)]
        simp), HB.out⟩
      clear HF HB
      go_wp2
      go_ret
      exact ⟨⟨-1, rfl, by rw [HQ.out.1]; rfl⟩, HQ.out.2⟩
set_option maxHeartbeats 1000000 in
theorem hasQ_any (B c : Nat) (a : Option Addr) (L : List Itm) (pr : Itm → Bool) (f : Nat) (lb : Array Value) (eg : ∀ args w, (callFunc f args).run Tryd.prog w = .ok (.enter f args) w) (w : World) (h : OwnI w B a c L) (n : Nat) (hn : n = L.length) (hl : n ≤ 1000)
    (hp : ∀ W, Below w.heap.size w W → ∀ x : Itm, Calls Tryd.prog f (#[.agg #[.string x.e.k, .int .i64 x.e.t, .int .u16 x.e.o, .string x.e.v, .int .i64 x.e.u, .int .i64 x.s, .int .i64 x.q]] ++ lb) W fun e w' => e = .returned (.bool (pr x)) ∧ Below W.heap.size W w') :
    Calls Tryd.prog 35 #[.slice a n c, .func (.func f) #[] lb] w fun e w' => e = .returned (.bool (L.any pr)) ∧ Below w.heap.size w w' := by
  have HI := Lib.hid (idxQ_any B c a L pr f lb eg w h n hn hl hp)
  clear h hn hl hp
  go_enter Tryd.func35, Tryd.ntmps35
  go_wp2_with (go_at_call 51; refine HI.out.mono ?_; rintro e w2 ⟨⟨r, rfl, hr⟩, q2⟩; replace hr := Lib.hid hr; replace q2 := Lib.hid q2; refine Hid.out ?_)
  refine Lib.hid ?_
  go_wp2
  go_ret
  exact ⟨by rw [← hr.out]; rfl, q2.out⟩
set_option maxHeartbeats 1000000 in
theorem qNews_any (sb B c : Nat) (a : Option Addr) (L : List Itm) (p l : Int) (e : Ent) (w : World) (h : QAt w B sb a c L p l) (hL : L.length ≤ 1000) :
    Calls Tryd.prog 19 #[.pointer (some ⟨sb, 0, none⟩), .agg #[.string e.k, .int .i64 e.t, .int .u16 e.o, .string e.v, .int .i64 e.u]] w fun r w' => r = .returned (.bool (!L.any (newsP e))) ∧ Below w.heap.size w w' := by
  have d1 := (Below.refl w.heap.size w).alloc (Nat.le_refl _) (.cells #[.string e.k, .int .i64 e.t, .int .u16 e.o, .string e.v, .int .i64 e.u] 27)
  have b1 := EBlk.new w e
  have eg : ∀ args w, (callFunc 36 args).run Tryd.prog w = .ok (.enter 36 args) w := enters_of Tryd.func36 (by kernel_rfl) rfl
  obtain ⟨n, hn⟩ : ∃ n, L.length = n := ⟨_, rfl⟩
  have HC := Lib.hid (hasQ_any B c a L (newsP e) 36 #[.pointer (some ⟨w.heap.size, 0, none⟩)] eg _ (h.2.on d1) n hn.symm (by omega) (fun W hW x => qNews1_any x w.heap.size e W (b1.on hW)))
  have c0 := (h.1.on d1).c0
  rw [hn] at c0
  have HD := Lib.hid d1
  generalize L.any (newsP e) = b at *
  obtain ⟨ke, te, oe, ve, ue⟩ := e
  dsimp only at *
  clear d1 b1 h hn hL eg
  go_enter Tryd.func19, Tryd.ntmps19
  go_wp2_with (go_at_call 35; refine HC.out.mono ?_; rintro r w2 ⟨rfl, q2⟩; replace q2 := Lib.hid q2; refine Hid.out ?_)
  refine Lib.hid ?_
  go_wp2
  go_ret
  exact ⟨rfl, HD.out.trans (q2.out.mono HD.out.size)⟩

theorem appendI_zero (q : Addr) (n c : Nat) (b : Option Addr) (cc : Nat) (hn : n ≤ c) (w : World) (ty : TypeId) : (Builtin.append_ #[43, 43] ty #[.slice (some q) n c, .slice b 0 cc]).run Tryd.prog w = .ok (.slice (some q) n c) w := by
  obtain ⟨i0, hi, hi0, hi1, hi2⟩ := info_parts infoIt
  cases b <;> simp [Builtin.append_, run_underlying Tryd.underlying43, sizeOf, typeInfo, hi, Builtin.lenOf, Builtin.firstCells, hn, storeCells, loadCells, loadCellsFrom]
theorem step_appendI_zero {w : World} {ops : Array Oper} {o : Oper} {act : Act} {K : Act → World → Prop} {Q : Exit → Act → World → Prop} {E : Prop} (hgd : o.guard = none) (s x : Operand)
    (ho : o.op = .call { callee := .builtin .append, args := #[s, x], argTypes := #[43, 43] }) (q : Addr) (n c : Nat) (b : Option Addr) (cc : Nat) (hs : act.eval s = .slice (some q) n c) (hx : act.eval x = .slice b 0 cc) (hn : n ≤ c)
    (h : K (act.put o.dst (.slice (some q) n c)) w) : if Region.wanted o (yielded ops act.tmps) = true then Oper.wp Tryd.prog o act w K Q else E := by
  have hw : Region.wanted o (yielded ops act.tmps) = true := by simp [Region.wanted, hgd]
  rw [if_pos hw]
  have hr := appendI_zero q n c b cc hn w o.type
  unfold Oper.wp execOp
  simp only [ho, resolve, invoke, builtin, Sem.run_bind, Sem.run_pure, Result.andThen_ok, List.map_toArray, List.map_cons, List.map_nil, hs, hx, hr]
  exact h
set_option maxRecDepth 100000 in
set_option maxHeartbeats 2000000 in
theorem qDel_any (g B c : Nat) (L : List Itm) (w : World) (h : OwnI w B (some ⟨g, 0, none⟩) c L) (hL : L.length = 33) :
    Calls Tryd.prog 23 #[.slice (some ⟨g, 0, none⟩) 33 c, .int .i64 32, .int .i64 33] w fun e w' => e = .returned (.slice (some ⟨g, 0, none⟩) 32 c) ∧ OwnI w' B (some ⟨g, 0, none⟩) c (L.take 32) ∧ w.grownBy w' (some g) := by
  have hcap := h.cap
  have h33 : (33 : Int) ≤ (c : Int) := by omega
  have h32 : (32 : Int) ≤ (c : Int) := by omega
  have h32n : 32 ≤ c := by omega
  have HH := Lib.hid h
  clear h hcap
  by_cases h3 : c = 33
  · subst h3
    go_enter Tryd.func23, Tryd.ntmps23
    go_wp2_with fail
    refine wp_region_any (by kernel_rfl) ?_
    change wpAny _ _ _ _ _ _ _ (World.drew _)
    have hS : (fun w' : World => OwnI w' B (some ⟨g, 0, none⟩) 33 L ∧ w.grownBy w' (some g)) w.drew := ⟨HH.out, ⟨rfl, rfl, rfl, Nat.le_refl _, fun _ _ _ => rfl⟩⟩
    refine wpAny_of_held (S := fun w' => OwnI w' B (some ⟨g, 0, none⟩) 33 L ∧ w.grownBy w' (some g)) _ _ _ _ ?_
    refine wpAnyH_takeE (i := 0) (some 20) (v := ?_) rfl rfl (by as_aux_lemma => kernel_rfl) (by as_aux_lemma => kernel_rfl) (by as_aux_lemma => kernel_rfl) (fun _ _ _ h => h) (Or.inl ⟨by kernel_rfl, ?_⟩) hS ?_
    rotate_left
    · intro w hSw; skip; go_simp
      first | done | with_reducible rfl
    refine wpAnyH_takeE (i := 1) (some 21) (v := ?_) rfl rfl (by as_aux_lemma => kernel_rfl) (by as_aux_lemma => kernel_rfl) (by as_aux_lemma => kernel_rfl) (fun _ _ _ h => h) (Or.inl ⟨by kernel_rfl, ?_⟩) hS ?_
    rotate_left
    · intro w hSw; skip; go_simp
      first | done | with_reducible rfl
    refine wpAnyH_takeE (i := 2) (some 22) (v := ?_) rfl rfl (by as_aux_lemma => kernel_rfl) (by as_aux_lemma => kernel_rfl) (by as_aux_lemma => kernel_rfl) (fun _ _ _ h => h) (Or.inl ⟨by kernel_rfl, ?_⟩) hS ?_
    rotate_left
    · intro w hSw; skip; go_simp
      first | done | with_reducible rfl
    refine wpAnyH_takeE (i := 3) (some 23) (v := ?_) rfl rfl (by as_aux_lemma => kernel_rfl) (by as_aux_lemma => kernel_rfl) (by as_aux_lemma => kernel_rfl) (fun _ _ _ h => h) (Or.inl ⟨by kernel_rfl, ?_⟩) hS ?_
    rotate_left
    · intro w hSw; skip; go_simp
      first | done | with_reducible rfl
    refine wpAnyH_takeE (i := 4) (some 24) (v := ?_) rfl rfl (by as_aux_lemma => kernel_rfl) (by as_aux_lemma => kernel_rfl) (by as_aux_lemma => kernel_rfl) (fun _ _ _ h => h) (Or.inl ⟨by kernel_rfl, ?_⟩) hS ?_
    rotate_left
    · intro w hSw; skip; go_simp
      first | done | with_reducible rfl
    refine wpAnyH_takeE (i := 5) (some 25) (v := ?_) rfl rfl (by as_aux_lemma => kernel_rfl) (by as_aux_lemma => kernel_rfl) (by as_aux_lemma => kernel_rfl) (fun _ _ _ h => h) (Or.inl ⟨by kernel_rfl, ?_⟩) hS ?_
    rotate_left
    · intro w hSw; skip; go_simp
      first | done | with_reducible rfl
    refine wpAnyH_ready (rs := [6]) (by as_aux_lemma => kernel_rfl) (by simp) ?_
    refine AllReadyH.cons rfl (fun K hK => ?_) AllReadyH.nil
    refine step_appendI_zero rfl _ _ rfl ⟨g, 0, none⟩ 32 33 (some ⟨g, 0, none⟩) 0 (by kernel_rfl) (by kernel_rfl) h32n ?_
    refine hK.out _ _ hS (fun hS => ?_)
    clear hK K
    refine wpAnyH_takeE (i := 7) (some 0) (v := ?_) rfl rfl (by as_aux_lemma => kernel_rfl) (by as_aux_lemma => kernel_rfl) (by as_aux_lemma => kernel_rfl) (fun _ _ _ h => h) (Or.inl ⟨by kernel_rfl, ?_⟩) hS ?_
    rotate_left
    · intro w hSw; skip; go_simp
      first | done | with_reducible rfl
    refine wpAnyH_done (by kernel_rfl) ?_ _
    obtain ⟨ho, hg0⟩ := hS
    generalize World.drew w = w1 at *
    obtain ⟨w', hc, ho', hg'⟩ := ho.clear 32 (by omega) (33 - 32)
    rw [hL] at hc
    have hne : ¬ (33 : Nat) = 32 := by omega
    have HF := Lib.hid (And.intro ho' (hg0.andThen hg' (fun j hj => .inr hj)))
    clear ho hg0 ho' hg' HH
    go_simp
    go_wp2
    go_ret
    exact ⟨rfl, HF.out.1, HF.out.2⟩
  · skip
    go_enter Tryd.func23, Tryd.ntmps23
    go_wp2_with fail
    refine wp_region_any (by kernel_rfl) ?_
    change wpAny _ _ _ _ _ _ _ (World.drew _)
    have hS : (fun w' : World => OwnI w' B (some ⟨g, 0, none⟩) c L ∧ w.grownBy w' (some g)) w.drew := ⟨HH.out, ⟨rfl, rfl, rfl, Nat.le_refl _, fun _ _ _ => rfl⟩⟩
    refine wpAny_of_held (S := fun w' => OwnI w' B (some ⟨g, 0, none⟩) c L ∧ w.grownBy w' (some g)) _ _ _ _ ?_
    refine wpAnyH_takeE (i := 0) (some 20) (v := ?_) rfl rfl (by as_aux_lemma => kernel_rfl) (by as_aux_lemma => kernel_rfl) (by as_aux_lemma => kernel_rfl) (fun _ _ _ h => h) (Or.inl ⟨by kernel_rfl, ?_⟩) hS ?_
    rotate_left
    · intro w hSw; skip; go_simp
      first | done | with_reducible rfl
    refine wpAnyH_takeE (i := 1) (some 21) (v := ?_) rfl rfl (by as_aux_lemma => kernel_rfl) (by as_aux_lemma => kernel_rfl) (by as_aux_lemma => kernel_rfl) (fun _ _ _ h => h) (Or.inl ⟨by kernel_rfl, ?_⟩) hS ?_
    rotate_left
    · intro w hSw; skip; go_simp
      first | done | with_reducible rfl
    refine wpAnyH_takeE (i := 2) (some 22) (v := ?_) rfl rfl (by as_aux_lemma => kernel_rfl) (by as_aux_lemma => kernel_rfl) (by as_aux_lemma => kernel_rfl) (fun _ _ _ h => h) (Or.inl ⟨by kernel_rfl, ?_⟩) hS ?_
    rotate_left
    · intro w hSw; skip; go_simp
      first | done | with_reducible rfl
    refine wpAnyH_takeE (i := 3) (some 23) (v := ?_) rfl rfl (by as_aux_lemma => kernel_rfl) (by as_aux_lemma => kernel_rfl) (by as_aux_lemma => kernel_rfl) (fun _ _ _ h => h) (Or.inl ⟨by kernel_rfl, ?_⟩) hS ?_
    rotate_left
    · intro w hSw; skip; go_simp
      first | done | with_reducible rfl
    refine wpAnyH_takeE (i := 4) (some 24) (v := ?_) rfl rfl (by as_aux_lemma => kernel_rfl) (by as_aux_lemma => kernel_rfl) (by as_aux_lemma => kernel_rfl) (fun _ _ _ h => h) (Or.inl ⟨by kernel_rfl, ?_⟩) hS ?_
    rotate_left
    · intro w hSw; skip; go_simp
      first | done | with_reducible rfl
    refine wpAnyH_takeE (i := 5) (some 25) (v := ?_) rfl rfl (by as_aux_lemma => kernel_rfl) (by as_aux_lemma => kernel_rfl) (by as_aux_lemma => kernel_rfl) (fun _ _ _ h => h) (Or.inl ⟨by kernel_rfl, ?_⟩) hS ?_
    rotate_left
    · intro w hSw; skip; go_simp
      first | done | with_reducible rfl
    refine wpAnyH_ready (rs := [6]) (by as_aux_lemma => kernel_rfl) (by simp) ?_
    refine AllReadyH.cons rfl (fun K hK => ?_) AllReadyH.nil
    refine step_appendI_zero rfl _ _ rfl ⟨g, 0, none⟩ 32 c (some ⟨g, 231, none⟩) (c - 33) (by kernel_rfl) (by kernel_rfl) h32n ?_
    refine hK.out _ _ hS (fun hS => ?_)
    clear hK K
    refine wpAnyH_takeE (i := 7) (some 0) (v := ?_) rfl rfl (by as_aux_lemma => kernel_rfl) (by as_aux_lemma => kernel_rfl) (by as_aux_lemma => kernel_rfl) (fun _ _ _ h => h) (Or.inl ⟨by kernel_rfl, ?_⟩) hS ?_
    rotate_left
    · intro w hSw; skip; go_simp
      first | done | with_reducible rfl
    refine wpAnyH_done (by kernel_rfl) ?_ _
    obtain ⟨ho, hg0⟩ := hS
    generalize World.drew w = w1 at *
    obtain ⟨w', hc, ho', hg'⟩ := ho.clear 32 (by omega) (c - 32)
    rw [hL] at hc
    have hne : ¬ c = 32 := by omega
    have HF := Lib.hid (And.intro ho' (hg0.andThen hg' (fun j hj => .inr hj)))
    clear ho hg0 ho' hg' HH
    go_simp
    go_wp2
    go_ret
    exact ⟨rfl, HF.out.1, HF.out.2⟩

end Go.Proofs.YtkbonifbnbdbkaaDoor
