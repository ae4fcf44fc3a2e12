/-
  The reference of layer 15: Merge.
-/
import Derived.Test.YtccldbophonloaaBRf7
import Derived.Deep.Cut
namespace Go.Proofs.Ytccldbophonloaa
open Go Go.RowKit

/-- What Merge of the reference tells, where its list is a table's. -/
def MergeRPost (a : Option Addr) (T : Tb) (l : List Mem) (w : World) (e : Ending) (w' : World) : Prop :=
  ∃ a' n' c' ao no co, e = .returned (.tuple #[.agg #[.int .u16 (T.s : Int), .slice a' n' c'], .slice ao no co]) ∧ n' = (memsB (mergeB T l)).length ∧ MemsAt w' a' (memsB (mergeB T l)) ∧ (∀ q, a' = some q → a = some q ∨ w.heap.size ≤ q.block) ∧
    no = (mergeM T l).length ∧ OwnMx w' w.heap.size (.slice ao no co) (mergeM T l) ∧ Below w.heap.size w w'
/-- What the loop of Merge holds. -/
structure RmSt (w : World) (N : Nat) (T : Tb) (a : Option Addr) (wr : World) (l : List Mem) (a2 : Option Addr) (n2 c2 : Nat) (v : Value) : Prop where
  box : RtB wr w.heap.size (T.s : Int) a2 n2 c2
  res : RtB wr (w.heap.size + 1) 0 none 0 0
  len : n2 = (memsB (mergeB T l)).length
  mems : MemsAt wr a2 (memsB (mergeB T l))
  sep : ∀ q, a2 = some q → a = some q ∨ N ≤ q.block
  own : OwnMx wr N v (mergeM T l)
  ap : ∀ q j, a2 = some q → v.ownBlock = some j → q.block ≠ j
  le : N ≤ wr.heap.size
  below : Below w.heap.size w wr
theorem MemsAt.far {w u : World} {a : Option Addr} {l : List Mem} {r : Option Nat} (h : MemsAt w a l) (g : w.grownBy u r) (hne : ∀ q j, a = some q → r = some j → q.block ≠ j) : MemsAt u a l := fun hn => by
  obtain ⟨c, o, rfl, hlt, hc⟩ := h hn
  exact ⟨c, o, rfl, Nat.lt_of_lt_of_le hlt g.size, fun i hi j v hv => (g.cell (hc i hi j v hv) (by
    intro e
    exact hne _ _ rfl e.symm rfl))⟩
theorem mergeM_take (T : Tb) (l : List Mem) (k : Nat) (hk : k < l.length) : mergeM T (l.take (k + 1)) = mergeM T (l.take k) ++ tellM (mergeB T (l.take k)) l[k] ∧ mergeB T (l.take (k + 1)) = hearB (mergeB T (l.take k)) l[k] := by
  rw [List.take_succ_eq_append_getElem hk, mergeM_snoc, mergeB_snoc]
  exact ⟨rfl, rfl⟩

set_option maxRecDepth 100000 in
set_option maxHeartbeats 16000000 in
theorem brMerge_any (a : Option Addr) (n c : Nat) (T : Tb) (hok : TbOk T) (al : Option Addr) (nl cl : Nat) (l : List Mem) (w : World) (hM : MemsAt w a (memsB T)) (hn : n = (memsB T).length) (hL : MemsAt w al l) (hnl : nl = l.length) (hll : l.length ≤ 1000) (hF : FitM l) :
    Calls Try.prog 18 #[.agg #[.int .u16 (T.s : Int), .slice a n c], .slice al nl cl] w (MergeRPost a T l w) := by
  have e1 := (Below.refl w.heap.size w).alloc (Nat.le_refl _) (.cells #[.int .u16 (T.s : Int), .slice a n c] 28)
  have e2 := e1.alloc (by simp) (.cells #[.int .u16 0, .slice none 0 0] 28)
  have r2 := (RtB.new w (T.s : Int) a n c).on ((Below.refl _ _).alloc (Nat.le_refl _) (.cells #[.int .u16 0, .slice none 0 0] 28))
  have r4 := RtB.new (w.alloc (.cells #[.int .u16 (T.s : Int), .slice a n c] 28)) 0 none 0 0
  simp only [World.size_alloc] at r4
  have hq1 : nl ≤ 1000 := by omega
  have HLn := Lib.hid hnl
  have HLa := Lib.hid hL
  have HFi := Lib.hid hF
  have HK := Lib.hid hok
  have HAw : Hid (∀ q, a = some q → q.block < w.heap.size) := Lib.hid (hM.ltB (memsB_pos hok))
  obtain ⟨N, hN⟩ : ∃ N, N = ((w.alloc (.cells #[.int .u16 (T.s : Int), .slice a n c] 28)).alloc (.cells #[.int .u16 0, .slice none 0 0] 28)).heap.size := ⟨_, rfl⟩
  have HS0 : Hid (RmSt w N T a ((w.alloc (.cells #[.int .u16 (T.s : Int), .slice a n c] 28)).alloc (.cells #[.int .u16 0, .slice none 0 0] 28)) [] a n c (.slice none 0 0)) := Lib.hid ⟨r2, r4, hn, hM.on e2, fun q e => .inl e, OwnMx.nil _ _, (fun q j _ e => by simp [Value.ownBlock] at e), by omega, e2⟩
  have HNs : Hid (w.heap.size + 2 = N) := Lib.hid (by simp at hN; omega)
  clear hM hn hL hnl hll hF hok e1 e2 r2 r4 hN
  unfold MergeRPost
  go_enter Try.func18, Try.ntmps18
  go_wp2_with fail
  generalize (w.alloc (.cells #[.int .u16 (T.s : Int), .slice a n c] 28)).alloc (.cells #[.int .u16 0, .slice none 0 0] 28) = W at *
  go_wp2
  go_loopw [6, 7] (fun v x wr => ∃ (k : Nat) (a6 : Option Addr) (n6 c6 : Nat), k ≤ nl ∧ x = .int .i64 (k : Int) ∧ v = .slice a6 n6 c6 ∧ Hid (∃ a2 n2 c2, RmSt w N T a wr (l.take k) a2 n2 c2 (.slice a6 n6 c6))) (fun _ x _ => nl - (intOf x).toNat)
  case atStart => exact ⟨0, none, 0, 0, Nat.zero_le _, rfl, rfl, Lib.hid ⟨a, n, c, HS0.out⟩⟩
  case round =>
    clear HS0
    obtain ⟨k, a6, n6, c6, hk, rfl, rfl, HE⟩ := hrel
    obtain ⟨a2, n2, c2, hst⟩ := HE.out
    have HS := Lib.hid hst
    clear hst HE
    by_cases hlt : k < nl
    case neg =>
      have hkl : ¬ (k : Int) < (nl : Int) := by omega
      have c0 := HS.out.box.c0; have c1 := HS.out.box.c1
      have z0 := HS.out.res.c0; have z1 := HS.out.res.c1; have zf := HS.out.res.f
      have HF : Hid (RtB (stR wr (w.heap.size + 1) (T.s : Int) a2 n2 c2) (w.heap.size + 1) (T.s : Int) a2 n2 c2 ∧ n2 = (memsB (mergeB T l)).length ∧ MemsAt (stR wr (w.heap.size + 1) (T.s : Int) a2 n2 c2) a2 (memsB (mergeB T l)) ∧ (∀ q, a2 = some q → a = some q ∨ w.heap.size ≤ q.block) ∧ n6 = (mergeM T l).length ∧ OwnMx (stR wr (w.heap.size + 1) (T.s : Int) a2 n2 c2) w.heap.size (.slice a6 n6 c6) (mergeM T l) ∧ Below w.heap.size w (stR wr (w.heap.size + 1) (T.s : Int) a2 n2 c2)) := Lib.hid (by
        have e : l.take k = l := List.take_of_length_le (by have := HLn.out; omega)
        have h := HS.out
        rw [e] at h
        obtain ⟨x, y, e2, -, -, -⟩ := h.own.form
        simp only [Value.slice.injEq] at e2
        have hns := HNs.out
        refine ⟨h.res.store _ _ _ _, h.len, h.mems.setR (fun q e => ?_) _ _ _ _, fun q e => (h.sep q e).imp id (fun hh => by omega), e2.2.1, (h.own.turn (stR_grown _ _ _ _ _ _) (by omega)).base (by omega), stR_below h.below (by omega) _ _ _ _⟩
        rcases h.sep q e with hh | hh
        · have := HAw.out q hh; omega
        · omega)
      clear HS
      go_wp2
      exact bodyPost_ret (results_rt2 rfl _ _ _ rfl HF.out.1) rfl ⟨a2, n2, c2, a6, n6, c6, rfl, HF.out.2.1, HF.out.2.2.1, HF.out.2.2.2.1, HF.out.2.2.2.2.1, HF.out.2.2.2.2.2.1, HF.out.2.2.2.2.2.2⟩
    have hkl : (k : Int) < (nl : Int) := by omega
    have hkx : k < l.length := by have := HLn.out; omega
    obtain ⟨ba, oa, rfl, hba, hd⟩ := HLa.out.cells k hkx
    have HC : Hid (∀ u, Below w.heap.size w u → u.cell? ⟨ba, oa + k * 3, none⟩ = some (.int .u16 l[k].n) ∧ u.cell? ⟨ba, oa + k * 3 + 1, none⟩ = some (.int .u8 l[k].s) ∧ u.cell? ⟨ba, oa + k * 3 + 2, none⟩ = some (.int .i64 l[k].i)) := Lib.hid (fun u hu => ⟨(hu.cell (p := ⟨ba, oa + k * 3, none⟩) hba).trans hd.1, (hu.cell (p := ⟨ba, oa + k * 3 + 1, none⟩) hba).trans hd.2.1, (hu.cell (p := ⟨ba, oa + k * 3 + 2, none⟩) hba).trans hd.2.2⟩)
    have HT := Lib.hid (mergeM_take T l k hkx)
    have HFk := Lib.hid (HFi.out l[k] (List.getElem_mem hkx))
    have HTk : Hid (TbOk (mergeB T (l.take k)) ∧ (mergeB T (l.take k)).s = T.s) := Lib.hid ⟨mergeB_ok HK.out (fun m hm => HFi.out m (List.mem_of_mem_take hm)), mergeB_s _ _⟩
    have HLm : Hid ((mergeM T (l.take k)).length ≤ 1000) := Lib.hid (by
      have h1 := mergeM_len T (l.take k)
      have h3 : (l.take k).length ≤ l.length := by rw [List.length_take]; omega
      have := HLn.out
      omega)
    generalize l[k] = m at *
    obtain ⟨mn, ms, mi⟩ := m
    dsimp only at HC HFk
    clear hkx hba hd
    have HR : Hid (RtB wr w.heap.size (T.s : Int) a2 n2 c2 ∧ RtB wr (w.heap.size + 1) 0 none 0 0 ∧ n2 = (memsB (mergeB T (l.take k))).length ∧ MemsAt wr a2 (memsB (mergeB T (l.take k))) ∧ (∀ q, a2 = some q → a = some q ∨ N ≤ q.block) ∧ OwnMx wr N (.slice a6 n6 c6) (mergeM T (l.take k)) ∧ N ≤ wr.heap.size ∧ Below w.heap.size w wr ∧ ∀ q j, a2 = some q → (Value.slice a6 n6 c6).ownBlock = some j → q.block ≠ j) := Lib.hid ⟨HS.out.box, HS.out.res, HS.out.len, HS.out.mems, HS.out.sep, HS.out.own, HS.out.le, HS.out.below, HS.out.ap⟩
    clear HS
    generalize mergeM T (l.take k) = acc at *
    generalize mergeB T (l.take k) = Tk at *
    obtain ⟨Nr, hNr⟩ : ∃ Nr, Nr = wr.heap.size := ⟨_, rfl⟩
    have HNe := Lib.hid hNr
    have HLp : Hid (0 < (memsB (hearB Tk ⟨mn, ms, mi⟩)).length) := Lib.hid (memsB_pos (hearB_ok HTk.out.1 (m := ⟨mn, ms, mi⟩) HFk.out.1 HFk.out.2))
    have HA2 : Hid (∀ q, a2 = some q → q.block < Nr) := Lib.hid (by rw [hNr]; exact HR.out.2.2.2.1.ltB (memsB_pos HTk.out.1))
    have HHe : Hid (∀ u, Below Nr wr u → Calls Try.prog 13 #[.agg #[.int .u16 (T.s : Int), .slice a2 n2 c2], .agg #[.int .u16 mn, .int .u8 ms, .int .i64 mi]] u (HearRPost a2 Tk ⟨mn, ms, mi⟩ u)) := Lib.hid (fun u hu => by
      have := brHear_any a2 n2 c2 Tk HTk.out.1 ⟨mn, ms, mi⟩ HFk.out.1 u (HR.out.2.2.2.1.on (hNr ▸ hu)) HR.out.2.2.1
      rwa [HTk.out.2] at this)
    have HX : Hid (∀ u, Below Nr wr u → RtB u w.heap.size (T.s : Int) a2 n2 c2 ∧ Below w.heap.size w u) := Lib.hid (fun u hu => ⟨HR.out.1.on (hNr ▸ hu), HR.out.2.2.2.2.2.2.2.1.trans (hu.mono (by rw [hNr]; exact HR.out.2.2.2.2.2.2.2.1.size))⟩)
    clear hNr
    have hTs : Tk.s = T.s := HTk.out.2
    replace hTs := Lib.hid hTs
    go_wp2_with fail
    apply code_join5 (HearEnd Nr wr a2 Tk ⟨mn, ms, mi⟩)
    · skip
      refine wp_region_any (by kernel_rfl) ?_
      change wpAny _ _ _ _ _ _ _ (World.drew _)
      have hS : (fun w' : World => Below Nr wr w') wr.drew := (Below.refl _ wr).drew
      refine wpAny_of_held (S := fun w' => Below Nr wr w') _ _ _ _ ?_
      refine wpAnyH_takeE (i := 0) (some 18) (v := ?_) rfl rfl (by as_aux_lemma => kernel_rfl) (by as_aux_lemma => kernel_rfl) (by as_aux_lemma => kernel_rfl) (fun _ _ _ h => h) (Or.inl ⟨by kernel_rfl, ?_⟩) hS ?_
      rotate_left
      · intro w hSw; have y0 := HX.out _ hSw; have c0 := y0.1.c0; have c1 := y0.1.c1; obtain ⟨d0, d1, d2⟩ := HC.out _ y0.2; clear y0; go_simp
        first | done | with_reducible rfl
      refine wpAnyH_takeE (i := 1) (some 19) (v := ?_) rfl rfl (by as_aux_lemma => kernel_rfl) (by as_aux_lemma => kernel_rfl) (by as_aux_lemma => kernel_rfl) (fun _ _ _ h => h) (Or.inl ⟨by kernel_rfl, ?_⟩) hS ?_
      rotate_left
      · intro w hSw; have y0 := HX.out _ hSw; have c0 := y0.1.c0; have c1 := y0.1.c1; obtain ⟨d0, d1, d2⟩ := HC.out _ y0.2; clear y0; go_simp
        first | done | with_reducible rfl
      refine wpAnyH_takeE (i := 2) (some 20) (v := ?_) rfl rfl (by as_aux_lemma => kernel_rfl) (by as_aux_lemma => kernel_rfl) (by as_aux_lemma => kernel_rfl) (fun _ _ _ h => h) (Or.inl ⟨by kernel_rfl, ?_⟩) hS ?_
      rotate_left
      · intro w hSw; have y0 := HX.out _ hSw; have c0 := y0.1.c0; have c1 := y0.1.c1; obtain ⟨d0, d1, d2⟩ := HC.out _ y0.2; clear y0; go_simp
        first | done | with_reducible rfl
      refine wpAnyH_takeE (i := 3) (some 21) (v := ?_) rfl rfl (by as_aux_lemma => kernel_rfl) (by as_aux_lemma => kernel_rfl) (by as_aux_lemma => kernel_rfl) (fun _ _ _ h => h) (Or.inl ⟨by kernel_rfl, ?_⟩) hS ?_
      rotate_left
      · intro w hSw; have y0 := HX.out _ hSw; have c0 := y0.1.c0; have c1 := y0.1.c1; obtain ⟨d0, d1, d2⟩ := HC.out _ y0.2; clear y0; go_simp
        first | done | with_reducible rfl
      refine wpAnyH_takeE (i := 4) (some 22) (v := ?_) rfl rfl (by as_aux_lemma => kernel_rfl) (by as_aux_lemma => kernel_rfl) (by as_aux_lemma => kernel_rfl) (fun _ _ _ h => h) (Or.inl ⟨by kernel_rfl, ?_⟩) hS ?_
      rotate_left
      · intro w hSw; have y0 := HX.out _ hSw; have c0 := y0.1.c0; have c1 := y0.1.c1; obtain ⟨d0, d1, d2⟩ := HC.out _ y0.2; clear y0; go_simp
        first | done | with_reducible rfl
      refine wpAnyH_ready (rs := [5, 10, 11]) (by as_aux_lemma => kernel_rfl) (by simp) ?_
      refine AllReadyH.cons rfl (fun K hK => ?_) (AllReadyH.cons rfl (fun K hK => ?_) (AllReadyH.cons rfl (fun K hK => ?_) AllReadyH.nil))
      · skip
        go_simp
        go_wp2_with (go_at_call 13; refine (HHe.out _ hS).mono ?_; rintro e u1 ⟨x8, n8, c8, rfl, hn, hx, hs0, qx⟩; replace hn := Lib.hid hn; replace qx := Lib.hid qx)
        have hs : ∀ q, x8 = some q → a2 = some q ∨ Nr ≤ q.block := fun q e => (hs0 q e).imp id (fun h => Nat.le_trans (Nat.le_trans (Nat.le_of_eq HNe.out) hS.size) h)
        refine hK.out _ _ ?_ (fun hS => ?_)
        · exact hS.trans (qx.out.mono (Nat.le_trans (Nat.le_of_eq HNe.out) hS.size))
        clear hK K hs0 qx
        refine wpAnyH_takeE (i := 6) (some 17) (v := ?_) rfl rfl (by as_aux_lemma => kernel_rfl) (by as_aux_lemma => kernel_rfl) (by as_aux_lemma => kernel_rfl) (fun _ _ _ h => h) (Or.inl ⟨by kernel_rfl, ?_⟩) hS ?_
        rotate_left
        · intro w hSw; skip; go_simp
          first | done | with_reducible rfl
        refine wpAnyH_takeE (i := 7) (some 24) (v := ?_) rfl rfl (by as_aux_lemma => kernel_rfl) (by as_aux_lemma => kernel_rfl) (by as_aux_lemma => kernel_rfl) (fun _ _ _ h => h) (Or.inl ⟨by kernel_rfl, ?_⟩) hS ?_
        rotate_left
        · intro w hSw; skip; go_simp
          first | done | with_reducible rfl
        refine wpAnyH_takeE (i := 8) (some 25) (v := ?_) rfl rfl (by as_aux_lemma => kernel_rfl) (by as_aux_lemma => kernel_rfl) (by as_aux_lemma => kernel_rfl) (fun _ _ _ h => h) (Or.inl ⟨by kernel_rfl, ?_⟩) hS ?_
        rotate_left
        · intro w hSw; skip; go_simp
          first | done | with_reducible rfl
        refine wpAnyH_takeE (i := 9) (some 26) (v := ?_) rfl rfl (by as_aux_lemma => kernel_rfl) (by as_aux_lemma => kernel_rfl) (by as_aux_lemma => kernel_rfl) (fun _ _ _ h => h) (Or.inl ⟨by kernel_rfl, ?_⟩) hS ?_
        rotate_left
        · intro w hSw; skip; go_simp
          first | done | with_reducible rfl
        refine wpAnyH_ready (rs := [10, 11]) (by as_aux_lemma => kernel_rfl) (by simp) ?_
        refine AllReadyH.cons rfl (fun K hK => ?_) (AllReadyH.cons rfl (fun K hK => ?_) AllReadyH.nil)
        · skip
          go_simp
          have dX : Below u1.heap.size u1 (u1.alloc (.cells #[.int .u16 0, .slice none 0 0] 28)) := (Below.refl u1.heap.size u1).alloc (Nat.le_refl _) (.cells #[.int .u16 0, .slice none 0 0] 28)
          have hb8 : Nr ≤ u1.heap.size := Nat.le_trans (Nat.le_of_eq HNe.out) hS.size
          refine hK.out _ _ (hS.trans (dX.mono (Nat.le_trans (Nat.le_of_eq HNe.out) hS.size))) (fun hS => ?_)
          clear hK K
          have ra : RtB (u1.alloc (.cells #[.int .u16 0, .slice none 0 0] 28)) u1.heap.size 0 none 0 0 := RtB.new u1 0 none 0 0
          have h1 : ∀ q, x8 = some q → q.block ≠ u1.heap.size := fun q e => Nat.ne_of_lt (hx.ltB HLp.out q e)
          replace hx := hx.on dX
          clear dX
          generalize hy : (u1.alloc (.cells #[.int .u16 0, .slice none 0 0] 28)) = u2 at *
          clear hy
          generalize hyb : u1.heap.size = b8 at *
          clear hyb
          refine wpAnyH_ready (rs := [11]) (by as_aux_lemma => kernel_rfl) (by simp) ?_
          refine AllReadyH.cons rfl (fun K hK => ?_) AllReadyH.nil
          go_simp
          have dX : Below u2.heap.size u2 (u2.alloc (.cells #[.int .u16 0, .int .u8 0, .int .i64 0] 32)) := (Below.refl u2.heap.size u2).alloc (Nat.le_refl _) (.cells #[.int .u16 0, .int .u8 0, .int .i64 0] 32)
          have hb9 : Nr ≤ u2.heap.size := Nat.le_trans (Nat.le_of_eq HNe.out) hS.size
          refine hK.out _ _ (hS.trans (dX.mono (Nat.le_trans (Nat.le_of_eq HNe.out) hS.size))) (fun hS => ?_)
          clear hK K
          have rb : Mb (u2.alloc (.cells #[.int .u16 0, .int .u8 0, .int .i64 0] 32)) u2.heap.size zM := Mb.new u2 zM
          have hne : b8 ≠ u2.heap.size := Nat.ne_of_lt ra.lt
          replace ra := ra.on dX
          have h2 : ∀ q, x8 = some q → q.block ≠ u2.heap.size := fun q e => Nat.ne_of_lt (hx.ltB HLp.out q e)
          replace hx := hx.on dX
          clear dX
          generalize hy : (u2.alloc (.cells #[.int .u16 0, .int .u8 0, .int .i64 0] 32)) = u3 at *
          clear hy
          generalize hyb : u2.heap.size = b9 at *
          clear hyb
          have hE := Lib.hid (HearEnd.mk (c := c8) ra rb hb8 hb9 hne hn.out hx hs h1 h2 hS)
          obtain ⟨w8, hw8⟩ : ∃ w8, w8 = stR u3 b8 (Tk.s : Int) x8 n8 c8 := ⟨_, rfl⟩
          obtain ⟨w9, hw9⟩ : ∃ w9, w9 = stM w8 b9 (heardM Tk ⟨mn, ms, mi⟩) := ⟨_, rfl⟩
          have HK1 : Hid (Below Nr wr w8) := Lib.hid (by rw [hw8]; exact stR_below hS hb8 _ _ _ _)
          have HK3 : Hid (Below Nr wr w9) := Lib.hid (by rw [hw9]; exact stM_below HK1.out hb9 _)
          have H45 : Hid (Mb w8 b9 zM) := Lib.hid (by rw [hw8]; exact rb.stR hne.symm _ _ _ _)
          rw [← hw8, ← hw9] at hE
          have z0 := ra.c0; have z1 := ra.c1; have zf := ra.f
          have hw8' : w8 = (u3.setCell ⟨b8, 0, none⟩ (.int .u16 (Tk.s : Int))).setCell ⟨b8, 1, none⟩ (.slice x8 n8 c8) := hw8
          have hw9' : w9 = ((w8.setCell ⟨b9, 0, none⟩ (.int .u16 (heardM Tk ⟨mn, ms, mi⟩).n)).setCell ⟨b9, 1, none⟩ (.int .u8 (heardM Tk ⟨mn, ms, mi⟩).s)).setCell ⟨b9, 2, none⟩ (.int .i64 (heardM Tk ⟨mn, ms, mi⟩).i) := hw9
          replace hw8' := Lib.hid hw8'
          replace hw9' := Lib.hid hw9'
          clear ra rb hx hs h1 h2 hn hb8 hb9 hne hw8 hw9
          refine wpAnyH_ready (rs := [12]) (by as_aux_lemma => kernel_rfl) (by simp) ?_
          refine AllReadyH.cons rfl (fun K hK => ?_) AllReadyH.nil
          go_simp
          rw [← hw8'.out]
          refine hK.out _ _ HK1.out (fun hS => ?_)
          clear hK K z0 z1 zf
          have x0 := H45.out.c0; have x1 := H45.out.c1; have x2 := H45.out.c2; have xf := H45.out.f
          dsimp only at x0 x1 x2
          clear hw8'
          refine wpAnyH_ready (rs := [13]) (by as_aux_lemma => kernel_rfl) (by simp) ?_
          refine AllReadyH.cons rfl (fun K hK => ?_) AllReadyH.nil
          go_simp
          rw [← hw9'.out]
          refine hK.out _ _ HK3.out (fun hS => ?_)
          clear hK K x0 x1 x2 xf hw9'
          refine wpAnyH_takeE (i := 14) (some 10) (v := ?_) rfl rfl (by as_aux_lemma => kernel_rfl) (by as_aux_lemma => kernel_rfl) (by as_aux_lemma => kernel_rfl) (fun _ _ _ h => h) (Or.inl ⟨by kernel_rfl, ?_⟩) hS ?_
          rotate_left
          · intro w hSw; skip; go_simp
            first | done | with_reducible rfl
          refine wpAnyH_done (by kernel_rfl) ?_ _
          exact ⟨b8, b9, x8, n8, c8, rfl, hE.out⟩
        · skip
          go_simp
          have dX : Below u1.heap.size u1 (u1.alloc (.cells #[.int .u16 0, .int .u8 0, .int .i64 0] 32)) := (Below.refl u1.heap.size u1).alloc (Nat.le_refl _) (.cells #[.int .u16 0, .int .u8 0, .int .i64 0] 32)
          have hb9 : Nr ≤ u1.heap.size := Nat.le_trans (Nat.le_of_eq HNe.out) hS.size
          refine hK.out _ _ (hS.trans (dX.mono (Nat.le_trans (Nat.le_of_eq HNe.out) hS.size))) (fun hS => ?_)
          clear hK K
          have rb : Mb (u1.alloc (.cells #[.int .u16 0, .int .u8 0, .int .i64 0] 32)) u1.heap.size zM := Mb.new u1 zM
          have h2 : ∀ q, x8 = some q → q.block ≠ u1.heap.size := fun q e => Nat.ne_of_lt (hx.ltB HLp.out q e)
          replace hx := hx.on dX
          clear dX
          generalize hy : (u1.alloc (.cells #[.int .u16 0, .int .u8 0, .int .i64 0] 32)) = u2 at *
          clear hy
          generalize hyb : u1.heap.size = b9 at *
          clear hyb
          refine wpAnyH_ready (rs := [10]) (by as_aux_lemma => kernel_rfl) (by simp) ?_
          refine AllReadyH.cons rfl (fun K hK => ?_) AllReadyH.nil
          go_simp
          have dX : Below u2.heap.size u2 (u2.alloc (.cells #[.int .u16 0, .slice none 0 0] 28)) := (Below.refl u2.heap.size u2).alloc (Nat.le_refl _) (.cells #[.int .u16 0, .slice none 0 0] 28)
          have hb8 : Nr ≤ u2.heap.size := Nat.le_trans (Nat.le_of_eq HNe.out) hS.size
          refine hK.out _ _ (hS.trans (dX.mono (Nat.le_trans (Nat.le_of_eq HNe.out) hS.size))) (fun hS => ?_)
          clear hK K
          have ra : RtB (u2.alloc (.cells #[.int .u16 0, .slice none 0 0] 28)) u2.heap.size 0 none 0 0 := RtB.new u2 0 none 0 0
          have hne : u2.heap.size ≠ b9 := (Nat.ne_of_lt rb.lt).symm
          replace rb := rb.on dX
          have h1 : ∀ q, x8 = some q → q.block ≠ u2.heap.size := fun q e => Nat.ne_of_lt (hx.ltB HLp.out q e)
          replace hx := hx.on dX
          clear dX
          generalize hy : (u2.alloc (.cells #[.int .u16 0, .slice none 0 0] 28)) = u3 at *
          clear hy
          generalize hyb : u2.heap.size = b8 at *
          clear hyb
          have hE := Lib.hid (HearEnd.mk (c := c8) ra rb hb8 hb9 hne hn.out hx hs h1 h2 hS)
          obtain ⟨w8, hw8⟩ : ∃ w8, w8 = stR u3 b8 (Tk.s : Int) x8 n8 c8 := ⟨_, rfl⟩
          obtain ⟨w9, hw9⟩ : ∃ w9, w9 = stM w8 b9 (heardM Tk ⟨mn, ms, mi⟩) := ⟨_, rfl⟩
          have HK1 : Hid (Below Nr wr w8) := Lib.hid (by rw [hw8]; exact stR_below hS hb8 _ _ _ _)
          have HK3 : Hid (Below Nr wr w9) := Lib.hid (by rw [hw9]; exact stM_below HK1.out hb9 _)
          have H45 : Hid (Mb w8 b9 zM) := Lib.hid (by rw [hw8]; exact rb.stR hne.symm _ _ _ _)
          rw [← hw8, ← hw9] at hE
          have z0 := ra.c0; have z1 := ra.c1; have zf := ra.f
          have hw8' : w8 = (u3.setCell ⟨b8, 0, none⟩ (.int .u16 (Tk.s : Int))).setCell ⟨b8, 1, none⟩ (.slice x8 n8 c8) := hw8
          have hw9' : w9 = ((w8.setCell ⟨b9, 0, none⟩ (.int .u16 (heardM Tk ⟨mn, ms, mi⟩).n)).setCell ⟨b9, 1, none⟩ (.int .u8 (heardM Tk ⟨mn, ms, mi⟩).s)).setCell ⟨b9, 2, none⟩ (.int .i64 (heardM Tk ⟨mn, ms, mi⟩).i) := hw9
          replace hw8' := Lib.hid hw8'
          replace hw9' := Lib.hid hw9'
          clear ra rb hx hs h1 h2 hn hb8 hb9 hne hw8 hw9
          refine wpAnyH_ready (rs := [12]) (by as_aux_lemma => kernel_rfl) (by simp) ?_
          refine AllReadyH.cons rfl (fun K hK => ?_) AllReadyH.nil
          go_simp
          rw [← hw8'.out]
          refine hK.out _ _ HK1.out (fun hS => ?_)
          clear hK K z0 z1 zf
          have x0 := H45.out.c0; have x1 := H45.out.c1; have x2 := H45.out.c2; have xf := H45.out.f
          dsimp only at x0 x1 x2
          clear hw8'
          refine wpAnyH_ready (rs := [13]) (by as_aux_lemma => kernel_rfl) (by simp) ?_
          refine AllReadyH.cons rfl (fun K hK => ?_) AllReadyH.nil
          go_simp
          rw [← hw9'.out]
          refine hK.out _ _ HK3.out (fun hS => ?_)
          clear hK K x0 x1 x2 xf hw9'
          refine wpAnyH_takeE (i := 14) (some 10) (v := ?_) rfl rfl (by as_aux_lemma => kernel_rfl) (by as_aux_lemma => kernel_rfl) (by as_aux_lemma => kernel_rfl) (fun _ _ _ h => h) (Or.inl ⟨by kernel_rfl, ?_⟩) hS ?_
          rotate_left
          · intro w hSw; skip; go_simp
            first | done | with_reducible rfl
          refine wpAnyH_done (by kernel_rfl) ?_ _
          exact ⟨b8, b9, x8, n8, c8, rfl, hE.out⟩
      · skip
        go_simp
        have dX : Below wr.drew.heap.size wr.drew (wr.alloc (.cells #[.int .u16 0, .slice none 0 0] 28)).drew := (Below.refl wr.drew.heap.size wr.drew).alloc (Nat.le_refl _) (.cells #[.int .u16 0, .slice none 0 0] 28)
        refine hK.out _ _ (hS.trans (dX.mono (Nat.le_trans (Nat.le_of_eq HNe.out) hS.size))) (fun hS => ?_)
        clear hK K
        have hb8 : Nr ≤ wr.heap.size := Nat.le_of_eq HNe.out
        have ra : RtB (wr.alloc (.cells #[.int .u16 0, .slice none 0 0] 28)).drew wr.heap.size 0 none 0 0 := RtB.new wr 0 none 0 0
        clear dX
        generalize hy : (wr.alloc (.cells #[.int .u16 0, .slice none 0 0] 28)).drew = u1 at *
        clear hy
        generalize hyb : wr.heap.size = b8 at hb8 ra ⊢
        clear hyb
        refine wpAnyH_ready (rs := [5, 11]) (by as_aux_lemma => kernel_rfl) (by simp) ?_
        refine AllReadyH.cons rfl (fun K hK => ?_) (AllReadyH.cons rfl (fun K hK => ?_) AllReadyH.nil)
        · skip
          go_simp
          go_wp2_with (go_at_call 13; refine (HHe.out _ hS).mono ?_; rintro e u2 ⟨x8, n8, c8, rfl, hn, hx, hs0, qx⟩; replace hn := Lib.hid hn; replace qx := Lib.hid qx)
          have h1 : ∀ q, x8 = some q → q.block ≠ b8 := fun q e => by
            have h3 := ra.lt
            rcases hs0 q e with h | h
            · have := HA2.out q h; omega
            · omega
          replace ra := ra.on qx.out
          have hs : ∀ q, x8 = some q → a2 = some q ∨ Nr ≤ q.block := fun q e => (hs0 q e).imp id (fun h => Nat.le_trans (Nat.le_trans (Nat.le_of_eq HNe.out) hS.size) h)
          refine hK.out _ _ ?_ (fun hS => ?_)
          · exact hS.trans (qx.out.mono (Nat.le_trans (Nat.le_of_eq HNe.out) hS.size))
          clear hK K hs0 qx
          refine wpAnyH_takeE (i := 6) (some 17) (v := ?_) rfl rfl (by as_aux_lemma => kernel_rfl) (by as_aux_lemma => kernel_rfl) (by as_aux_lemma => kernel_rfl) (fun _ _ _ h => h) (Or.inl ⟨by kernel_rfl, ?_⟩) hS ?_
          rotate_left
          · intro w hSw; skip; go_simp
            first | done | with_reducible rfl
          refine wpAnyH_takeE (i := 7) (some 24) (v := ?_) rfl rfl (by as_aux_lemma => kernel_rfl) (by as_aux_lemma => kernel_rfl) (by as_aux_lemma => kernel_rfl) (fun _ _ _ h => h) (Or.inl ⟨by kernel_rfl, ?_⟩) hS ?_
          rotate_left
          · intro w hSw; skip; go_simp
            first | done | with_reducible rfl
          refine wpAnyH_takeE (i := 8) (some 25) (v := ?_) rfl rfl (by as_aux_lemma => kernel_rfl) (by as_aux_lemma => kernel_rfl) (by as_aux_lemma => kernel_rfl) (fun _ _ _ h => h) (Or.inl ⟨by kernel_rfl, ?_⟩) hS ?_
          rotate_left
          · intro w hSw; skip; go_simp
            first | done | with_reducible rfl
          refine wpAnyH_takeE (i := 9) (some 26) (v := ?_) rfl rfl (by as_aux_lemma => kernel_rfl) (by as_aux_lemma => kernel_rfl) (by as_aux_lemma => kernel_rfl) (fun _ _ _ h => h) (Or.inl ⟨by kernel_rfl, ?_⟩) hS ?_
          rotate_left
          · intro w hSw; skip; go_simp
            first | done | with_reducible rfl
          refine wpAnyH_ready (rs := [11]) (by as_aux_lemma => kernel_rfl) (by simp) ?_
          refine AllReadyH.cons rfl (fun K hK => ?_) AllReadyH.nil
          go_simp
          have dX : Below u2.heap.size u2 (u2.alloc (.cells #[.int .u16 0, .int .u8 0, .int .i64 0] 32)) := (Below.refl u2.heap.size u2).alloc (Nat.le_refl _) (.cells #[.int .u16 0, .int .u8 0, .int .i64 0] 32)
          have hb9 : Nr ≤ u2.heap.size := Nat.le_trans (Nat.le_of_eq HNe.out) hS.size
          refine hK.out _ _ (hS.trans (dX.mono (Nat.le_trans (Nat.le_of_eq HNe.out) hS.size))) (fun hS => ?_)
          clear hK K
          have rb : Mb (u2.alloc (.cells #[.int .u16 0, .int .u8 0, .int .i64 0] 32)) u2.heap.size zM := Mb.new u2 zM
          have hne : b8 ≠ u2.heap.size := Nat.ne_of_lt ra.lt
          replace ra := ra.on dX
          have h2 : ∀ q, x8 = some q → q.block ≠ u2.heap.size := fun q e => Nat.ne_of_lt (hx.ltB HLp.out q e)
          replace hx := hx.on dX
          clear dX
          generalize hy : (u2.alloc (.cells #[.int .u16 0, .int .u8 0, .int .i64 0] 32)) = u3 at *
          clear hy
          generalize hyb : u2.heap.size = b9 at *
          clear hyb
          have hE := Lib.hid (HearEnd.mk (c := c8) ra rb hb8 hb9 hne hn.out hx hs h1 h2 hS)
          obtain ⟨w8, hw8⟩ : ∃ w8, w8 = stR u3 b8 (Tk.s : Int) x8 n8 c8 := ⟨_, rfl⟩
          obtain ⟨w9, hw9⟩ : ∃ w9, w9 = stM w8 b9 (heardM Tk ⟨mn, ms, mi⟩) := ⟨_, rfl⟩
          have HK1 : Hid (Below Nr wr w8) := Lib.hid (by rw [hw8]; exact stR_below hS hb8 _ _ _ _)
          have HK3 : Hid (Below Nr wr w9) := Lib.hid (by rw [hw9]; exact stM_below HK1.out hb9 _)
          have H45 : Hid (Mb w8 b9 zM) := Lib.hid (by rw [hw8]; exact rb.stR hne.symm _ _ _ _)
          rw [← hw8, ← hw9] at hE
          have z0 := ra.c0; have z1 := ra.c1; have zf := ra.f
          have hw8' : w8 = (u3.setCell ⟨b8, 0, none⟩ (.int .u16 (Tk.s : Int))).setCell ⟨b8, 1, none⟩ (.slice x8 n8 c8) := hw8
          have hw9' : w9 = ((w8.setCell ⟨b9, 0, none⟩ (.int .u16 (heardM Tk ⟨mn, ms, mi⟩).n)).setCell ⟨b9, 1, none⟩ (.int .u8 (heardM Tk ⟨mn, ms, mi⟩).s)).setCell ⟨b9, 2, none⟩ (.int .i64 (heardM Tk ⟨mn, ms, mi⟩).i) := hw9
          replace hw8' := Lib.hid hw8'
          replace hw9' := Lib.hid hw9'
          clear ra rb hx hs h1 h2 hn hb8 hb9 hne hw8 hw9
          refine wpAnyH_ready (rs := [12]) (by as_aux_lemma => kernel_rfl) (by simp) ?_
          refine AllReadyH.cons rfl (fun K hK => ?_) AllReadyH.nil
          go_simp
          rw [← hw8'.out]
          refine hK.out _ _ HK1.out (fun hS => ?_)
          clear hK K z0 z1 zf
          have x0 := H45.out.c0; have x1 := H45.out.c1; have x2 := H45.out.c2; have xf := H45.out.f
          dsimp only at x0 x1 x2
          clear hw8'
          refine wpAnyH_ready (rs := [13]) (by as_aux_lemma => kernel_rfl) (by simp) ?_
          refine AllReadyH.cons rfl (fun K hK => ?_) AllReadyH.nil
          go_simp
          rw [← hw9'.out]
          refine hK.out _ _ HK3.out (fun hS => ?_)
          clear hK K x0 x1 x2 xf hw9'
          refine wpAnyH_takeE (i := 14) (some 10) (v := ?_) rfl rfl (by as_aux_lemma => kernel_rfl) (by as_aux_lemma => kernel_rfl) (by as_aux_lemma => kernel_rfl) (fun _ _ _ h => h) (Or.inl ⟨by kernel_rfl, ?_⟩) hS ?_
          rotate_left
          · intro w hSw; skip; go_simp
            first | done | with_reducible rfl
          refine wpAnyH_done (by kernel_rfl) ?_ _
          exact ⟨b8, b9, x8, n8, c8, rfl, hE.out⟩
        · skip
          go_simp
          have dX : Below u1.heap.size u1 (u1.alloc (.cells #[.int .u16 0, .int .u8 0, .int .i64 0] 32)) := (Below.refl u1.heap.size u1).alloc (Nat.le_refl _) (.cells #[.int .u16 0, .int .u8 0, .int .i64 0] 32)
          have hb9 : Nr ≤ u1.heap.size := Nat.le_trans (Nat.le_of_eq HNe.out) hS.size
          refine hK.out _ _ (hS.trans (dX.mono (Nat.le_trans (Nat.le_of_eq HNe.out) hS.size))) (fun hS => ?_)
          clear hK K
          have rb : Mb (u1.alloc (.cells #[.int .u16 0, .int .u8 0, .int .i64 0] 32)) u1.heap.size zM := Mb.new u1 zM
          have hne : b8 ≠ u1.heap.size := Nat.ne_of_lt ra.lt
          replace ra := ra.on dX
          clear dX
          generalize hy : (u1.alloc (.cells #[.int .u16 0, .int .u8 0, .int .i64 0] 32)) = u2 at *
          clear hy
          generalize hyb : u1.heap.size = b9 at *
          clear hyb
          refine wpAnyH_ready (rs := [5]) (by as_aux_lemma => kernel_rfl) (by simp) ?_
          refine AllReadyH.cons rfl (fun K hK => ?_) AllReadyH.nil
          go_simp
          go_wp2_with (go_at_call 13; refine (HHe.out _ hS).mono ?_; rintro e u3 ⟨x8, n8, c8, rfl, hn, hx, hs0, qx⟩; replace hn := Lib.hid hn; replace qx := Lib.hid qx)
          have h1 : ∀ q, x8 = some q → q.block ≠ b8 := fun q e => by
            have h3 := ra.lt
            rcases hs0 q e with h | h
            · have := HA2.out q h; omega
            · omega
          replace ra := ra.on qx.out
          have h2 : ∀ q, x8 = some q → q.block ≠ b9 := fun q e => by
            have h3 := rb.lt
            rcases hs0 q e with h | h
            · have := HA2.out q h; omega
            · omega
          replace rb := rb.on qx.out
          have hs : ∀ q, x8 = some q → a2 = some q ∨ Nr ≤ q.block := fun q e => (hs0 q e).imp id (fun h => Nat.le_trans (Nat.le_trans (Nat.le_of_eq HNe.out) hS.size) h)
          refine hK.out _ _ ?_ (fun hS => ?_)
          · exact hS.trans (qx.out.mono (Nat.le_trans (Nat.le_of_eq HNe.out) hS.size))
          clear hK K hs0 qx
          refine wpAnyH_takeE (i := 6) (some 17) (v := ?_) rfl rfl (by as_aux_lemma => kernel_rfl) (by as_aux_lemma => kernel_rfl) (by as_aux_lemma => kernel_rfl) (fun _ _ _ h => h) (Or.inl ⟨by kernel_rfl, ?_⟩) hS ?_
          rotate_left
          · intro w hSw; skip; go_simp
            first | done | with_reducible rfl
          refine wpAnyH_takeE (i := 7) (some 24) (v := ?_) rfl rfl (by as_aux_lemma => kernel_rfl) (by as_aux_lemma => kernel_rfl) (by as_aux_lemma => kernel_rfl) (fun _ _ _ h => h) (Or.inl ⟨by kernel_rfl, ?_⟩) hS ?_
          rotate_left
          · intro w hSw; skip; go_simp
            first | done | with_reducible rfl
          refine wpAnyH_takeE (i := 8) (some 25) (v := ?_) rfl rfl (by as_aux_lemma => kernel_rfl) (by as_aux_lemma => kernel_rfl) (by as_aux_lemma => kernel_rfl) (fun _ _ _ h => h) (Or.inl ⟨by kernel_rfl, ?_⟩) hS ?_
          rotate_left
          · intro w hSw; skip; go_simp
            first | done | with_reducible rfl
          refine wpAnyH_takeE (i := 9) (some 26) (v := ?_) rfl rfl (by as_aux_lemma => kernel_rfl) (by as_aux_lemma => kernel_rfl) (by as_aux_lemma => kernel_rfl) (fun _ _ _ h => h) (Or.inl ⟨by kernel_rfl, ?_⟩) hS ?_
          rotate_left
          · intro w hSw; skip; go_simp
            first | done | with_reducible rfl
          have hE := Lib.hid (HearEnd.mk (c := c8) ra rb hb8 hb9 hne hn.out hx hs h1 h2 hS)
          obtain ⟨w8, hw8⟩ : ∃ w8, w8 = stR u3 b8 (Tk.s : Int) x8 n8 c8 := ⟨_, rfl⟩
          obtain ⟨w9, hw9⟩ : ∃ w9, w9 = stM w8 b9 (heardM Tk ⟨mn, ms, mi⟩) := ⟨_, rfl⟩
          have HK1 : Hid (Below Nr wr w8) := Lib.hid (by rw [hw8]; exact stR_below hS hb8 _ _ _ _)
          have HK3 : Hid (Below Nr wr w9) := Lib.hid (by rw [hw9]; exact stM_below HK1.out hb9 _)
          have H45 : Hid (Mb w8 b9 zM) := Lib.hid (by rw [hw8]; exact rb.stR hne.symm _ _ _ _)
          rw [← hw8, ← hw9] at hE
          have z0 := ra.c0; have z1 := ra.c1; have zf := ra.f
          have hw8' : w8 = (u3.setCell ⟨b8, 0, none⟩ (.int .u16 (Tk.s : Int))).setCell ⟨b8, 1, none⟩ (.slice x8 n8 c8) := hw8
          have hw9' : w9 = ((w8.setCell ⟨b9, 0, none⟩ (.int .u16 (heardM Tk ⟨mn, ms, mi⟩).n)).setCell ⟨b9, 1, none⟩ (.int .u8 (heardM Tk ⟨mn, ms, mi⟩).s)).setCell ⟨b9, 2, none⟩ (.int .i64 (heardM Tk ⟨mn, ms, mi⟩).i) := hw9
          replace hw8' := Lib.hid hw8'
          replace hw9' := Lib.hid hw9'
          clear ra rb hx hs h1 h2 hn hb8 hb9 hne hw8 hw9
          refine wpAnyH_ready (rs := [12]) (by as_aux_lemma => kernel_rfl) (by simp) ?_
          refine AllReadyH.cons rfl (fun K hK => ?_) AllReadyH.nil
          go_simp
          rw [← hw8'.out]
          refine hK.out _ _ HK1.out (fun hS => ?_)
          clear hK K z0 z1 zf
          have x0 := H45.out.c0; have x1 := H45.out.c1; have x2 := H45.out.c2; have xf := H45.out.f
          dsimp only at x0 x1 x2
          clear hw8'
          refine wpAnyH_ready (rs := [13]) (by as_aux_lemma => kernel_rfl) (by simp) ?_
          refine AllReadyH.cons rfl (fun K hK => ?_) AllReadyH.nil
          go_simp
          rw [← hw9'.out]
          refine hK.out _ _ HK3.out (fun hS => ?_)
          clear hK K x0 x1 x2 xf hw9'
          refine wpAnyH_takeE (i := 14) (some 10) (v := ?_) rfl rfl (by as_aux_lemma => kernel_rfl) (by as_aux_lemma => kernel_rfl) (by as_aux_lemma => kernel_rfl) (fun _ _ _ h => h) (Or.inl ⟨by kernel_rfl, ?_⟩) hS ?_
          rotate_left
          · intro w hSw; skip; go_simp
            first | done | with_reducible rfl
          refine wpAnyH_done (by kernel_rfl) ?_ _
          exact ⟨b8, b9, x8, n8, c8, rfl, hE.out⟩
      · skip
        go_simp
        have dX : Below wr.drew.heap.size wr.drew (wr.alloc (.cells #[.int .u16 0, .int .u8 0, .int .i64 0] 32)).drew := (Below.refl wr.drew.heap.size wr.drew).alloc (Nat.le_refl _) (.cells #[.int .u16 0, .int .u8 0, .int .i64 0] 32)
        refine hK.out _ _ (hS.trans (dX.mono (Nat.le_trans (Nat.le_of_eq HNe.out) hS.size))) (fun hS => ?_)
        clear hK K
        have hb9 : Nr ≤ wr.heap.size := Nat.le_of_eq HNe.out
        have rb : Mb (wr.alloc (.cells #[.int .u16 0, .int .u8 0, .int .i64 0] 32)).drew wr.heap.size zM := Mb.new wr zM
        clear dX
        generalize hy : (wr.alloc (.cells #[.int .u16 0, .int .u8 0, .int .i64 0] 32)).drew = u1 at *
        clear hy
        generalize hyb : wr.heap.size = b9 at hb9 rb ⊢
        clear hyb
        refine wpAnyH_ready (rs := [5, 10]) (by as_aux_lemma => kernel_rfl) (by simp) ?_
        refine AllReadyH.cons rfl (fun K hK => ?_) (AllReadyH.cons rfl (fun K hK => ?_) AllReadyH.nil)
        · skip
          go_simp
          go_wp2_with (go_at_call 13; refine (HHe.out _ hS).mono ?_; rintro e u2 ⟨x8, n8, c8, rfl, hn, hx, hs0, qx⟩; replace hn := Lib.hid hn; replace qx := Lib.hid qx)
          have h2 : ∀ q, x8 = some q → q.block ≠ b9 := fun q e => by
            have h3 := rb.lt
            rcases hs0 q e with h | h
            · have := HA2.out q h; omega
            · omega
          replace rb := rb.on qx.out
          have hs : ∀ q, x8 = some q → a2 = some q ∨ Nr ≤ q.block := fun q e => (hs0 q e).imp id (fun h => Nat.le_trans (Nat.le_trans (Nat.le_of_eq HNe.out) hS.size) h)
          refine hK.out _ _ ?_ (fun hS => ?_)
          · exact hS.trans (qx.out.mono (Nat.le_trans (Nat.le_of_eq HNe.out) hS.size))
          clear hK K hs0 qx
          refine wpAnyH_takeE (i := 6) (some 17) (v := ?_) rfl rfl (by as_aux_lemma => kernel_rfl) (by as_aux_lemma => kernel_rfl) (by as_aux_lemma => kernel_rfl) (fun _ _ _ h => h) (Or.inl ⟨by kernel_rfl, ?_⟩) hS ?_
          rotate_left
          · intro w hSw; skip; go_simp
            first | done | with_reducible rfl
          refine wpAnyH_takeE (i := 7) (some 24) (v := ?_) rfl rfl (by as_aux_lemma => kernel_rfl) (by as_aux_lemma => kernel_rfl) (by as_aux_lemma => kernel_rfl) (fun _ _ _ h => h) (Or.inl ⟨by kernel_rfl, ?_⟩) hS ?_
          rotate_left
          · intro w hSw; skip; go_simp
            first | done | with_reducible rfl
          refine wpAnyH_takeE (i := 8) (some 25) (v := ?_) rfl rfl (by as_aux_lemma => kernel_rfl) (by as_aux_lemma => kernel_rfl) (by as_aux_lemma => kernel_rfl) (fun _ _ _ h => h) (Or.inl ⟨by kernel_rfl, ?_⟩) hS ?_
          rotate_left
          · intro w hSw; skip; go_simp
            first | done | with_reducible rfl
          refine wpAnyH_takeE (i := 9) (some 26) (v := ?_) rfl rfl (by as_aux_lemma => kernel_rfl) (by as_aux_lemma => kernel_rfl) (by as_aux_lemma => kernel_rfl) (fun _ _ _ h => h) (Or.inl ⟨by kernel_rfl, ?_⟩) hS ?_
          rotate_left
          · intro w hSw; skip; go_simp
            first | done | with_reducible rfl
          refine wpAnyH_ready (rs := [10]) (by as_aux_lemma => kernel_rfl) (by simp) ?_
          refine AllReadyH.cons rfl (fun K hK => ?_) AllReadyH.nil
          go_simp
          have dX : Below u2.heap.size u2 (u2.alloc (.cells #[.int .u16 0, .slice none 0 0] 28)) := (Below.refl u2.heap.size u2).alloc (Nat.le_refl _) (.cells #[.int .u16 0, .slice none 0 0] 28)
          have hb8 : Nr ≤ u2.heap.size := Nat.le_trans (Nat.le_of_eq HNe.out) hS.size
          refine hK.out _ _ (hS.trans (dX.mono (Nat.le_trans (Nat.le_of_eq HNe.out) hS.size))) (fun hS => ?_)
          clear hK K
          have ra : RtB (u2.alloc (.cells #[.int .u16 0, .slice none 0 0] 28)) u2.heap.size 0 none 0 0 := RtB.new u2 0 none 0 0
          have hne : u2.heap.size ≠ b9 := (Nat.ne_of_lt rb.lt).symm
          replace rb := rb.on dX
          have h1 : ∀ q, x8 = some q → q.block ≠ u2.heap.size := fun q e => Nat.ne_of_lt (hx.ltB HLp.out q e)
          replace hx := hx.on dX
          clear dX
          generalize hy : (u2.alloc (.cells #[.int .u16 0, .slice none 0 0] 28)) = u3 at *
          clear hy
          generalize hyb : u2.heap.size = b8 at *
          clear hyb
          have hE := Lib.hid (HearEnd.mk (c := c8) ra rb hb8 hb9 hne hn.out hx hs h1 h2 hS)
          obtain ⟨w8, hw8⟩ : ∃ w8, w8 = stR u3 b8 (Tk.s : Int) x8 n8 c8 := ⟨_, rfl⟩
          obtain ⟨w9, hw9⟩ : ∃ w9, w9 = stM w8 b9 (heardM Tk ⟨mn, ms, mi⟩) := ⟨_, rfl⟩
          have HK1 : Hid (Below Nr wr w8) := Lib.hid (by rw [hw8]; exact stR_below hS hb8 _ _ _ _)
          have HK3 : Hid (Below Nr wr w9) := Lib.hid (by rw [hw9]; exact stM_below HK1.out hb9 _)
          have H45 : Hid (Mb w8 b9 zM) := Lib.hid (by rw [hw8]; exact rb.stR hne.symm _ _ _ _)
          rw [← hw8, ← hw9] at hE
          have z0 := ra.c0; have z1 := ra.c1; have zf := ra.f
          have hw8' : w8 = (u3.setCell ⟨b8, 0, none⟩ (.int .u16 (Tk.s : Int))).setCell ⟨b8, 1, none⟩ (.slice x8 n8 c8) := hw8
          have hw9' : w9 = ((w8.setCell ⟨b9, 0, none⟩ (.int .u16 (heardM Tk ⟨mn, ms, mi⟩).n)).setCell ⟨b9, 1, none⟩ (.int .u8 (heardM Tk ⟨mn, ms, mi⟩).s)).setCell ⟨b9, 2, none⟩ (.int .i64 (heardM Tk ⟨mn, ms, mi⟩).i) := hw9
          replace hw8' := Lib.hid hw8'
          replace hw9' := Lib.hid hw9'
          clear ra rb hx hs h1 h2 hn hb8 hb9 hne hw8 hw9
          refine wpAnyH_ready (rs := [12]) (by as_aux_lemma => kernel_rfl) (by simp) ?_
          refine AllReadyH.cons rfl (fun K hK => ?_) AllReadyH.nil
          go_simp
          rw [← hw8'.out]
          refine hK.out _ _ HK1.out (fun hS => ?_)
          clear hK K z0 z1 zf
          have x0 := H45.out.c0; have x1 := H45.out.c1; have x2 := H45.out.c2; have xf := H45.out.f
          dsimp only at x0 x1 x2
          clear hw8'
          refine wpAnyH_ready (rs := [13]) (by as_aux_lemma => kernel_rfl) (by simp) ?_
          refine AllReadyH.cons rfl (fun K hK => ?_) AllReadyH.nil
          go_simp
          rw [← hw9'.out]
          refine hK.out _ _ HK3.out (fun hS => ?_)
          clear hK K x0 x1 x2 xf hw9'
          refine wpAnyH_takeE (i := 14) (some 10) (v := ?_) rfl rfl (by as_aux_lemma => kernel_rfl) (by as_aux_lemma => kernel_rfl) (by as_aux_lemma => kernel_rfl) (fun _ _ _ h => h) (Or.inl ⟨by kernel_rfl, ?_⟩) hS ?_
          rotate_left
          · intro w hSw; skip; go_simp
            first | done | with_reducible rfl
          refine wpAnyH_done (by kernel_rfl) ?_ _
          exact ⟨b8, b9, x8, n8, c8, rfl, hE.out⟩
        · skip
          go_simp
          have dX : Below u1.heap.size u1 (u1.alloc (.cells #[.int .u16 0, .slice none 0 0] 28)) := (Below.refl u1.heap.size u1).alloc (Nat.le_refl _) (.cells #[.int .u16 0, .slice none 0 0] 28)
          have hb8 : Nr ≤ u1.heap.size := Nat.le_trans (Nat.le_of_eq HNe.out) hS.size
          refine hK.out _ _ (hS.trans (dX.mono (Nat.le_trans (Nat.le_of_eq HNe.out) hS.size))) (fun hS => ?_)
          clear hK K
          have ra : RtB (u1.alloc (.cells #[.int .u16 0, .slice none 0 0] 28)) u1.heap.size 0 none 0 0 := RtB.new u1 0 none 0 0
          have hne : u1.heap.size ≠ b9 := (Nat.ne_of_lt rb.lt).symm
          replace rb := rb.on dX
          clear dX
          generalize hy : (u1.alloc (.cells #[.int .u16 0, .slice none 0 0] 28)) = u2 at *
          clear hy
          generalize hyb : u1.heap.size = b8 at *
          clear hyb
          refine wpAnyH_ready (rs := [5]) (by as_aux_lemma => kernel_rfl) (by simp) ?_
          refine AllReadyH.cons rfl (fun K hK => ?_) AllReadyH.nil
          go_simp
          go_wp2_with (go_at_call 13; refine (HHe.out _ hS).mono ?_; rintro e u3 ⟨x8, n8, c8, rfl, hn, hx, hs0, qx⟩; replace hn := Lib.hid hn; replace qx := Lib.hid qx)
          have h1 : ∀ q, x8 = some q → q.block ≠ b8 := fun q e => by
            have h3 := ra.lt
            rcases hs0 q e with h | h
            · have := HA2.out q h; omega
            · omega
          replace ra := ra.on qx.out
          have h2 : ∀ q, x8 = some q → q.block ≠ b9 := fun q e => by
            have h3 := rb.lt
            rcases hs0 q e with h | h
            · have := HA2.out q h; omega
            · omega
          replace rb := rb.on qx.out
          have hs : ∀ q, x8 = some q → a2 = some q ∨ Nr ≤ q.block := fun q e => (hs0 q e).imp id (fun h => Nat.le_trans (Nat.le_trans (Nat.le_of_eq HNe.out) hS.size) h)
          refine hK.out _ _ ?_ (fun hS => ?_)
          · exact hS.trans (qx.out.mono (Nat.le_trans (Nat.le_of_eq HNe.out) hS.size))
          clear hK K hs0 qx
          refine wpAnyH_takeE (i := 6) (some 17) (v := ?_) rfl rfl (by as_aux_lemma => kernel_rfl) (by as_aux_lemma => kernel_rfl) (by as_aux_lemma => kernel_rfl) (fun _ _ _ h => h) (Or.inl ⟨by kernel_rfl, ?_⟩) hS ?_
          rotate_left
          · intro w hSw; skip; go_simp
            first | done | with_reducible rfl
          refine wpAnyH_takeE (i := 7) (some 24) (v := ?_) rfl rfl (by as_aux_lemma => kernel_rfl) (by as_aux_lemma => kernel_rfl) (by as_aux_lemma => kernel_rfl) (fun _ _ _ h => h) (Or.inl ⟨by kernel_rfl, ?_⟩) hS ?_
          rotate_left
          · intro w hSw; skip; go_simp
            first | done | with_reducible rfl
          refine wpAnyH_takeE (i := 8) (some 25) (v := ?_) rfl rfl (by as_aux_lemma => kernel_rfl) (by as_aux_lemma => kernel_rfl) (by as_aux_lemma => kernel_rfl) (fun _ _ _ h => h) (Or.inl ⟨by kernel_rfl, ?_⟩) hS ?_
          rotate_left
          · intro w hSw; skip; go_simp
            first | done | with_reducible rfl
          refine wpAnyH_takeE (i := 9) (some 26) (v := ?_) rfl rfl (by as_aux_lemma => kernel_rfl) (by as_aux_lemma => kernel_rfl) (by as_aux_lemma => kernel_rfl) (fun _ _ _ h => h) (Or.inl ⟨by kernel_rfl, ?_⟩) hS ?_
          rotate_left
          · intro w hSw; skip; go_simp
            first | done | with_reducible rfl
          have hE := Lib.hid (HearEnd.mk (c := c8) ra rb hb8 hb9 hne hn.out hx hs h1 h2 hS)
          obtain ⟨w8, hw8⟩ : ∃ w8, w8 = stR u3 b8 (Tk.s : Int) x8 n8 c8 := ⟨_, rfl⟩
          obtain ⟨w9, hw9⟩ : ∃ w9, w9 = stM w8 b9 (heardM Tk ⟨mn, ms, mi⟩) := ⟨_, rfl⟩
          have HK1 : Hid (Below Nr wr w8) := Lib.hid (by rw [hw8]; exact stR_below hS hb8 _ _ _ _)
          have HK3 : Hid (Below Nr wr w9) := Lib.hid (by rw [hw9]; exact stM_below HK1.out hb9 _)
          have H45 : Hid (Mb w8 b9 zM) := Lib.hid (by rw [hw8]; exact rb.stR hne.symm _ _ _ _)
          rw [← hw8, ← hw9] at hE
          have z0 := ra.c0; have z1 := ra.c1; have zf := ra.f
          have hw8' : w8 = (u3.setCell ⟨b8, 0, none⟩ (.int .u16 (Tk.s : Int))).setCell ⟨b8, 1, none⟩ (.slice x8 n8 c8) := hw8
          have hw9' : w9 = ((w8.setCell ⟨b9, 0, none⟩ (.int .u16 (heardM Tk ⟨mn, ms, mi⟩).n)).setCell ⟨b9, 1, none⟩ (.int .u8 (heardM Tk ⟨mn, ms, mi⟩).s)).setCell ⟨b9, 2, none⟩ (.int .i64 (heardM Tk ⟨mn, ms, mi⟩).i) := hw9
          replace hw8' := Lib.hid hw8'
          replace hw9' := Lib.hid hw9'
          clear ra rb hx hs h1 h2 hn hb8 hb9 hne hw8 hw9
          refine wpAnyH_ready (rs := [12]) (by as_aux_lemma => kernel_rfl) (by simp) ?_
          refine AllReadyH.cons rfl (fun K hK => ?_) AllReadyH.nil
          go_simp
          rw [← hw8'.out]
          refine hK.out _ _ HK1.out (fun hS => ?_)
          clear hK K z0 z1 zf
          have x0 := H45.out.c0; have x1 := H45.out.c1; have x2 := H45.out.c2; have xf := H45.out.f
          dsimp only at x0 x1 x2
          clear hw8'
          refine wpAnyH_ready (rs := [13]) (by as_aux_lemma => kernel_rfl) (by simp) ?_
          refine AllReadyH.cons rfl (fun K hK => ?_) AllReadyH.nil
          go_simp
          rw [← hw9'.out]
          refine hK.out _ _ HK3.out (fun hS => ?_)
          clear hK K x0 x1 x2 xf hw9'
          refine wpAnyH_takeE (i := 14) (some 10) (v := ?_) rfl rfl (by as_aux_lemma => kernel_rfl) (by as_aux_lemma => kernel_rfl) (by as_aux_lemma => kernel_rfl) (fun _ _ _ h => h) (Or.inl ⟨by kernel_rfl, ?_⟩) hS ?_
          rotate_left
          · intro w hSw; skip; go_simp
            first | done | with_reducible rfl
          refine wpAnyH_done (by kernel_rfl) ?_ _
          exact ⟨b8, b9, x8, n8, c8, rfl, hE.out⟩
    · rintro b8 b9 x8 n8 c8 w8 hE
      have hE2 := Lib.hid hE
      clear hE HHe HA2 HX
      obtain ⟨e1, e2, e3, e4, e5, e6, e7, e8⟩ := hE2.out
      rw [hTs.out] at e1
      have hne : b8 ≠ w.heap.size := by have := HR.out.1.lt; have := HNe.out; omega
      have r2 := HR.out.1.on (HNe.out ▸ e8)
      have c0 := e1.c0; have c1 := e1.c1
      have z0 := r2.c0; have z1 := r2.c1; have zf := r2.f
      have y9 := (e2.kept (stR_grown w8 w.heap.size (T.s : Int) x8 n8 c8) (by have := HR.out.1.lt; have := HNe.out; simp; omega))
      have y0 := y9.c0; have y1 := y9.c1; have y2 := y9.c2
      obtain ⟨w9, hw9⟩ : ∃ w9, w9 = stR w8 w.heap.size (T.s : Int) x8 n8 c8 := ⟨_, rfl⟩
      have HST : Hid (RtB w9 w.heap.size (T.s : Int) x8 n8 c8 ∧ RtB w9 (w.heap.size + 1) 0 none 0 0 ∧ n8 = (memsB (hearB Tk ⟨mn, ms, mi⟩)).length ∧ MemsAt w9 x8 (memsB (hearB Tk ⟨mn, ms, mi⟩)) ∧ (∀ q, x8 = some q → a = some q ∨ N ≤ q.block) ∧ OwnMx w9 N (.slice a6 n6 c6) acc ∧ N ≤ w9.heap.size ∧ Below w.heap.size w w9 ∧ ∀ q j, x8 = some q → (Value.slice a6 n6 c6).ownBlock = some j → q.block ≠ j) := Lib.hid (by
        have hns := HNs.out
        have hr := HR.out
        have hnn : N ≤ Nr := by have := hr.2.2.2.2.2.2.1; have := HNe.out; omega
        have hsx : ∀ q, x8 = some q → a = some q ∨ N ≤ q.block := fun q e => by
          rcases e7 q e with h | h
          · exact hr.2.2.2.2.1 q h
          · exact .inr (Nat.le_trans hnn h)
        rw [hw9]
        refine ⟨r2.store _ _ _ _, (hr.2.1.on (HNe.out ▸ e8)).kept (stR_grown _ _ _ _ _ _) (by simp), e5, e6.setR (fun q e => ?_) _ _ _ _, hsx, (hr.2.2.2.2.2.1.on (HNe.out ▸ e8)).turn (stR_grown _ _ _ _ _ _) (by omega), Nat.le_trans hr.2.2.2.2.2.2.1 (Nat.le_trans e8.size (stR_grown _ _ _ _ _ _).size), stR_below (hr.2.2.2.2.2.2.2.1.trans (e8.mono (by have := HNe.out; have := hr.2.2.2.2.2.2.2.1.size; omega))) (Nat.le_refl _) _ _ _ _, fun q j e e3 => ?_⟩
        rotate_left
        · rcases e7 q e with h | h
          · exact hr.2.2.2.2.2.2.2.2 q j h e3
          · have := (World.ownsRow.lt hr.2.2.2.2.2.1 j e3).2; have := HNe.out; omega
        rcases hsx q e with h | h
        · have := HAw.out q h; omega
        · omega)
      rw [← hw9] at y0 y1 y2
      have hw9' : w9 = (w8.setCell ⟨w.heap.size, 0, none⟩ (.int .u16 (T.s : Int))).setCell ⟨w.heap.size, 1, none⟩ (.slice x8 n8 c8) := hw9
      have hw9'' := Lib.hid hw9'
      clear hw9 hw9' e1 e2 e3 e4 e5 e6 e7 e8 r2 y9 HR hE2 hne
      go_simp
      go_upto_region 7 with fail
      rw [← hw9''.out]
      clear hw9'' c0 c1 z0 z1 zf
      cases hnw : newsB Tk ⟨mn, ms, mi⟩ with
      | true =>
        have HTe : Hid (tellM Tk ⟨mn, ms, mi⟩ = [heardM Tk ⟨mn, ms, mi⟩]) := Lib.hid (by unfold tellM heardM; rw [if_pos hnw, if_pos hnw])
        clear hnw
        generalize heardM Tk ⟨mn, ms, mi⟩ = d at *
        obtain ⟨dn, ds, di⟩ := d
        dsimp only at y0 y1 y2
        obtain ⟨i0, hi, hi0, hi1, hi2⟩ := infoM
        have hown3 : w9.ownsRow N 32 3 (.slice a6 n6 c6) acc.length (cellsMx acc) := HST.out.2.2.2.2.2.1
        have hszz : N ≤ w9.heap.size := HST.out.2.2.2.2.2.2.1
        have hlen := HLm.out
        go_simp
        go_wp2_with (at_builtin; refine wpList_append_own_at _ rfl _ _ 23 rfl N 32 i0 _ 3 16 Try.underlying23 hi hi0 hi1 hi2 rfl (by decide) _ _ _ rfl (World.ownsRow.alloc hown3 _) ⟨w9.heap.size, 0, none⟩ 1 1 [.int .u16 dn, .int .u8 ds, .int .i64 di] rfl rfl (World.news_of_block (cs := #[.int .u16 dn, .int .u8 ds, .int .i64 di]) (newE _ _)) (by intro u' hu'; simp at hu'; rcases hu' with rfl | rfl | rfl <;> rfl) (by unfold maxLen; omega) (by omega) (by simp; omega) ?_; refine Hid.out ?_)
        refine Lib.hid ?_
        intro v7 w7 hown7 hg7 _ hat7
        have hA7 : OwnMx w7 N v7 (acc ++ [⟨dn, ds, di⟩]) := OwnMx.push hown7
        obtain ⟨a7, c7, rfl, -, -, -⟩ := hA7.form
        have hbz : ∀ j, (Value.slice a6 n6 c6).ownBlock = some j → N ≤ j := fun j hj => (World.ownsRow.lt hown3 j hj).1
        have hb2 := (Below.refl w9.heap.size w9).alloc (Nat.le_refl _) (.cells #[.int .u16 dn, .int .u8 ds, .int .i64 di] 32)
        have s7 : Below N w9 w7 := (hb2.mono hszz).grown hg7 (by simp; omega) (fun j hj => hbz j hj)
        have HST2 : Hid (∃ a2 n2 c2, RmSt w N T a w7 (l.take (k + 1)) a2 n2 c2 (.slice a7 (acc ++ [(⟨dn, ds, di⟩ : Mem)]).length c7)) := Lib.hid (by
          obtain ⟨g1, g2, g3, g4, g5, g6, g7, g8, g9⟩ := HST.out
          have hns := HNs.out
          refine ⟨x8, n8, c8, ⟨g1.below s7 (by omega), g2.below s7 (by omega), by rw [HT.out.2]; exact g3, ?_, g5, by rw [HT.out.1, HTe.out]; exact hA7, fun q j e e3 => ?_, Nat.le_trans g7 s7.size, g8.trans (s7.mono (by omega))⟩⟩
          · rw [HT.out.2]
            exact (g4.on hb2).far hg7 g9
          · rcases hat7 with h | h
            · exact g9 q j e (h.symm.trans e3)
            · have h5 := g4.ltB HLp.out q e
              rw [h] at e3
              simp at e3
              omega)
        clear hA7 s7 hb2 hbz hown7 hg7 hown3 hi hi0 hi1 hi2 hszz hlen HT HTe HST y0 y1 y2 hat7
        generalize (acc ++ [(⟨dn, ds, di⟩ : Mem)]).length = n7 at *
        go_wp2
        go_roundw
        case rel => exact ⟨k + 1, _, _, _, by omega, by go_num, rfl, HST2⟩
        case measure => simp [intOf]; omega
      | false =>
        have HTe : Hid (tellM Tk ⟨mn, ms, mi⟩ = []) := Lib.hid (by unfold tellM; rw [if_neg (by rw [hnw]; simp)])
        clear hnw
        have HST2 : Hid (∃ a2 n2 c2, RmSt w N T a w9 (l.take (k + 1)) a2 n2 c2 (.slice a6 n6 c6)) := Lib.hid (by
          obtain ⟨g1, g2, g3, g4, g5, g6, g7, g8, g9⟩ := HST.out
          exact ⟨x8, n8, c8, ⟨g1, g2, by rw [HT.out.2]; exact g3, by rw [HT.out.2]; exact g4, g5, by rw [HT.out.1, HTe.out, List.append_nil]; exact g6, g9, g7, g8⟩⟩)
        clear HT HTe HST y0 y1 y2
        go_simp
        go_wp2
        go_roundw
        case rel => exact ⟨k + 1, _, _, _, by omega, by go_num, rfl, HST2⟩
        case measure => simp [intOf]; omega

end Go.Proofs.Ytccldbophonloaa
