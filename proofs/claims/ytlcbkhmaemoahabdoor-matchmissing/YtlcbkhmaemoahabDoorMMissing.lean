/-
  The walk of MatchMissing.
-/
import Derived.Test.YtlcbkhmaemoahabDoorM4
import Derived.Maps.AppendAt
import Derived.Laws.AppendOwnNone
import Derived.Laws.OwnMore
import Derived.Deep.RegionHeld3
import Derived.Deep.QuietTactic
namespace Go.Proofs.YtlcbkhmaemoahabDoor
open Go.RowKit

/-- The cells of pairs. -/
def encP (p : Pr) : List Value := [.string p.1, .string p.2]
def cellsR (ps : List Pr) : List Value := ps.flatMap encP
theorem cellsR_cons (m : Pr) (r : List Pr) : cellsR (m :: r) = encP m ++ cellsR r := rfl
theorem cellsR_len : ∀ ms : List Pr, (cellsR ms).length = ms.length * 2
  | [] => rfl
  | m :: r => by rw [cellsR_cons, List.length_append, cellsR_len r, List.length_cons]; simp [encP]; omega
theorem cellsR_append (a b : List Pr) : cellsR (a ++ b) = cellsR a ++ cellsR b := List.flatMap_append
theorem cellsR_get : ∀ (ms : List Pr) (i : Nat) (hi : i < ms.length) (j : Nat), j < 2 → (cellsR ms)[i * 2 + j]? = (encP ms[i])[j]?
  | m :: r, 0, _, j, hj => by
    rw [cellsR_cons, List.getElem?_append_left (by simp [encP]; omega)]
    simp
  | m :: r, i + 1, hi, j, hj => by
    have := cellsR_get r i (by simpa using hi) j hj
    rw [cellsR_cons, List.getElem?_append_right (by simp [encP]; omega), show (i + 1) * 2 + j - (encP m).length = i * 2 + j by simp [encP]; omega, this]
    rfl
theorem cellsR_one {ms : List Pr} {v : Value} (h : v ∈ cellsR ms) : v.oneCell' = true := by
  obtain ⟨m, -, h2⟩ := List.mem_flatMap.1 h
  simp only [encP, List.mem_cons, List.not_mem_nil, or_false] at h2
  rcases h2 with rfl | rfl <;> rfl
theorem infoPr : (Tryd.prog.info? 38).map (fun i => (i.zero, i.size, i.bytes)) = some (some (.agg #[.string ⟨#[]⟩, .string ⟨#[]⟩]), 2, 32) := by kernel_rfl
def OwnR (w : World) (B : Nat) (v : Value) (ms : List Pr) : Prop := w.ownsRow B 38 2 v ms.length (cellsR ms)
theorem OwnR.prs {w : World} {B : Nat} {v : Value} {ms : List Pr} (h : OwnR w B v ms) : ∃ a c, v = .slice a ms.length c ∧ PairsAt w a ms ∧ (a = none → ms.length = 0 ∧ c = 0) := by
  rcases h.2 with ⟨rfl, h0⟩ | ⟨g, cap, cur, rfl, hg0, hg1, hcap, hmax, hcs, htk⟩
  · exact ⟨none, 0, by rw [h0], (fun hn => by omega), fun _ => ⟨h0, rfl⟩⟩
  · refine ⟨_, _, rfl, fun _ => ⟨g, 0, rfl, fun i hi => ?_⟩, fun e => by cases e⟩
    have hc : ∀ j, j < 2 → w.cell? ⟨g, i * 2 + j, none⟩ = (encP ms[i])[j]? := fun j hj => by
      rw [World.ownsRow.cellAt h _ (by omega), cellsR_get ms i hi j hj]
    rw [Nat.zero_add]
    exact ⟨hc 0 (by omega), hc 1 (by omega)⟩
theorem run_append_prs (ty : TypeId) (w : World) (B : Nat) (v : Value) (xs : List Pr) (hown : OwnR w B v xs) (q : Option Addr) (c : Nat) (ys : List Pr) (hq : PairsAt w q ys) (hnil : q = none → ys.length = 0 ∧ c = 0) (hb : xs.length + ys.length ≤ 1000) (hB : B ≤ w.heap.size) :
    ∃ v' w', (Builtin.append_ #[23, 23] ty #[v, .slice q ys.length c]).run Tryd.prog w = .ok v' w' ∧ OwnR w' B v' (xs ++ ys) ∧ w.grownBy w' v.ownBlock := by
  obtain ⟨i0, hi, hi0, hi1, hi2⟩ := info_parts infoPr
  cases q with
  | none =>
    obtain ⟨h0, rfl⟩ := hnil rfl
    have hys : ys = [] := List.eq_nil_of_length_eq_zero h0
    subst hys
    refine ⟨v, w, run_append_owned_none (P := Tryd.prog) (w := w) B 23 ty 38 i0 2 Tryd.underlying23 hi v _ _ hown, ?_, ?_⟩
    · rw [List.append_nil]; exact hown
    · exact ⟨rfl, rfl, rfl, Nat.le_refl _, fun _ _ _ => rfl⟩
  | some ad =>
    obtain ⟨v', w', hr, h1, h2, -, -⟩ := run_append_own_at (P := Tryd.prog) w B 23 ty 38 i0 _ 2 32 Tryd.underlying23 hi hi0 hi1 hi2 rfl (by decide) v _ _ hown ad ys.length c (cellsR ys) (cellsR_len ys) (fun j u hj => by
      have hjl : j < ys.length * 2 := by have := (List.getElem?_eq_some_iff.1 hj).1; rwa [cellsR_len] at this
      obtain ⟨b, o, e, hc⟩ := hq (by omega)
      obtain rfl := Option.some.inj e
      obtain ⟨c0, c1⟩ := hc (j / 2) (by omega)
      have hg := cellsR_get ys (j / 2) (by omega) (j % 2) (by omega)
      rw [show j / 2 * 2 + j % 2 = j by omega, hj] at hg
      rw [Go.WideShapes.add_plain, show o + j = o + j / 2 * 2 + j % 2 by omega]
      rcases (by omega : j % 2 = 0 ∨ j % 2 = 1) with e | e
      · rw [e] at hg ⊢; rw [hg]; exact c0
      · rw [e] at hg ⊢; rw [hg]; exact c1) (fun u hu => cellsR_one hu) (by unfold maxLen; omega) (by omega) hB
    refine ⟨v', w', hr, ?_, h2⟩
    unfold OwnR
    rw [List.length_append, cellsR_append]
    exact h1
theorem wpList_append_prs {ops : Array Oper} {rest : List Oper} {o : Oper} {a : Act} {w : World} {Q : Exit → Act → World → Prop} (hgd : o.guard = none) (s x : Operand)
    (ho : o.op = .call { callee := .builtin .append, args := #[s, x], argTypes := #[23, 23] }) (B : Nat) (v : Value) (xs : List Pr) (hs : a.eval s = v) (hown : OwnR w B v xs)
    (q : Option Addr) (c : Nat) (ys : List Pr) (hx : a.eval x = .slice q ys.length c) (hq : PairsAt w q ys) (hnil : q = none → ys.length = 0 ∧ c = 0) (hb : xs.length + ys.length ≤ 1000) (hB : B ≤ w.heap.size)
    (h : ∀ v' w', OwnR w' B v' (xs ++ ys) → w.grownBy w' v.ownBlock → wpList Tryd.prog ops Q rest (a.put o.dst v') w') :
    wpList Tryd.prog ops Q (o :: rest) a w := by
  refine wpList_plain hgd fun K hK => ?_
  obtain ⟨v', w', hr, h1, h2⟩ := run_append_prs o.type w B v xs hown q c ys hq hnil hb hB
  unfold Oper.wp execOp
  simp only [ho, resolve, invoke, builtin, Sem.run_bind, Sem.run_pure, Result.andThen_ok, List.map_toArray, List.map_cons, List.map_nil, hs, hx, hr]
  exact hK _ _ (h v' w' h1 h2)
theorem step_append_prs {w : World} {ops : Array Oper} {o : Oper} {act : Act} {K : Act → World → Prop} {Q : Exit → Act → World → Prop} {E : Prop} (hgd : o.guard = none) (s x : Operand)
    (ho : o.op = .call { callee := .builtin .append, args := #[s, x], argTypes := #[23, 23] }) (B : Nat) (v : Value) (xs : List Pr) (hs : act.eval s = v) (hown : OwnR w B v xs)
    (q : Option Addr) (c : Nat) (ys : List Pr) (hx : act.eval x = .slice q ys.length c) (hq : PairsAt w q ys) (hnil : q = none → ys.length = 0 ∧ c = 0) (hb : xs.length + ys.length ≤ 1000) (hB : B ≤ w.heap.size)
    (h : ∀ v' w', OwnR w' B v' (xs ++ ys) → w.grownBy w' v.ownBlock → K (act.put o.dst v') w') :
    if Region.wanted o (yielded ops act.tmps) = true then Oper.wp Tryd.prog o act w K Q else E := by
  have hw : Region.wanted o (yielded ops act.tmps) = true := by simp [Region.wanted, hgd]
  rw [if_pos hw]
  obtain ⟨v', w', hr, h1, h2⟩ := run_append_prs o.type w B v xs hown q c ys hq hnil hb hB
  unfold Oper.wp execOp
  simp only [ho, resolve, invoke, builtin, Sem.run_bind, Sem.run_pure, Result.andThen_ok, List.map_toArray, List.map_cons, List.map_nil, hs, hx, hr]
  exact h v' w' h1 h2
/-- One pair in a block. -/
theorem pairs_lit {w : World} {g : Nat} {p : Pr} (h : w.heap[g]? = some (.cells #[.string p.1, .string p.2] 38 (0, 0))) : PairsAt w (some ⟨g, 0, none⟩) [p] := fun _ => ⟨g, 0, rfl, fun i hi => by
  obtain rfl : i = 0 := by simpa using hi
  exact ⟨cell_heap h, cell_heap h⟩⟩

/-! What a name that is not there asks. -/
def without (ps : List Pr) (n : List UInt8) : List Pr := ps.filter fun p => nm p != n
theorem getV_without (ps : List Pr) (n : List UInt8) : getV (without ps n) n = ⟨#[]⟩ := by
  unfold getV
  rw [List.find?_eq_none.2 fun p hp => by
    have := (List.mem_filter.1 hp).2
    simpa using this]
theorem getV_empty (ps : List Pr) (s : ByteArray) : getV (without ps s.toList ++ [(s, ⟨#[]⟩)]) s.toList = ⟨#[]⟩ := by
  unfold getV
  rw [List.find?_append, List.find?_eq_none.2 fun p hp => by
    have := (List.mem_filter.1 hp).2
    simpa using this]
  simp
theorem mAsk_without (ps : List Pr) (m : Mt) : mAsk (without ps m.1.toList) m ↔ mAsk [] m := by
  unfold mAsk; rw [getV_without]; rfl
theorem mAsk_empty (ps : List Pr) (m : Mt) : mAsk (without ps m.1.toList ++ [(m.1, ⟨#[]⟩)]) m ↔ mAsk [] m := by
  unfold mAsk; rw [getV_empty]; rfl
theorem without_len (ps : List Pr) (n : List UInt8) : (without ps n).length ≤ ps.length := List.length_filter_le _ _
theorem without_vals {ps : List Pr} {n : List UInt8} (h : ∀ p ∈ ps, p.2.size ≤ 9223372036854775807) : ∀ p ∈ without ps n, p.2.size ≤ 9223372036854775807 := fun p hp => h p (List.mem_filter.1 hp).1
theorem without_take {ps : List Pr} {n : List UInt8} {k : Nat} (hk : k < ps.length) : without (ps.take (k + 1)) n = without (ps.take k) n ++ if nm ps[k] != n then [ps[k]] else [] := by
  unfold without
  rw [List.take_succ_eq_append_getElem hk, List.filter_append]
  congr 1
  rw [List.filter_cons]
  rfl

theorem OwnR.drewN' {w : World} {B : Nat} {v : Value} {ms : List Pr} (h : OwnR w B v ms) (k : Nat) : OwnR (w.drewN k) B v ms := h
theorem MtBlk.drewN' {w : World} {b : Nat} {m : Mt} (h : MtBlk w b m) (k : Nat) : MtBlk (w.drewN k) b m := h

set_option maxRecDepth 20000 in
set_option maxHeartbeats 8000000 in
theorem missing_walk (n : ByteArray) (o : Nat) (v : ByteArray) (a : Option Addr) (c : Nat) (ps : List Pr) (w : World) (htab : TabW w) (h : PairsAt w a ps) (hn : ps.length ≤ 9223372036854775807) :
    Calls Tryd.prog 5 #[.agg #[.string n, .int .u8 (o : Int), .string v], .slice a ps.length c] w fun e w' => e = .returned (.bool true) ∧ Below w.heap.size w w' := by
  have htl := htab.lt
  have HW := Lib.hid (fun u (hb : Below w.heap.size w u) => mawake_any u (htab.on hb htl))
  have HL := Lib.hid (fun u (hu : PairsAt u a ps) => nLight_any none a 0 0 c ps u hu (by decide) hn)
  have HC := Lib.hid (fun u (hb : Below w.heap.size w u) => mCheck_any n o v u (htab.on hb htl))
  have hA := (Below.refl w.heap.size w).alloc (Nat.le_refl _) (.cells #[.string n, .int .u8 (o : Int), .string v] 29)
  have hm0 : MtBlk (w.alloc (.cells #[.string n, .int .u8 (o : Int), .string v] 29)) w.heap.size (n, o, v) := heap_new w _
  have hP := h.below hA (Nat.le_refl _)
  have hsA : (w.alloc (.cells #[.string n, .int .u8 (o : Int), .string v] 29)).heap.size = w.heap.size + 1 := by simp
  by_cases hl : LightP 0 ps
  · rw [decide_eq_true hl] at HL
    have hv : ∀ p ∈ ps, p.2.size ≤ 9223372036854775807 := fun p hp => by have := hl.2.2 p hp; omega
    have h40 := hl.2.1
    clear hl
    by_cases he : mErr (n, o, v) = 0
    · rw [he] at HC
      clear he
      have HO := Lib.hid (fun (q : Option Addr) (k : Nat) (qs : List Pr) (kl : Nat) (hkl : kl = qs.length) u (hb : Below w.heap.size w u) (hq : PairsAt u q qs) (hl : qs.length ≤ 9223372036854775807) (hqv : ∀ p ∈ qs, p.2.size ≤ 9223372036854775807) => mOne_any n o v q k qs u (htab.on hb htl) hq hl hqv kl hkl)
      go_enter Tryd.func5, Tryd.ntmps5
      go_wp2_with (go_at_call 6; refine (HL.out _ hP).mono ?_; rintro e w1 ⟨rfl, q1⟩; refine Hid.out ?_)
      refine Lib.hid ?_
      have b1 := hA.trans (q1.mono (by omega))
      have hm1 : MtBlk w1 w.heap.size (n, o, v) := (q1.block w.heap.size (by omega)).trans hm0
      have c0 : w1.cell? ⟨w.heap.size, 0, none⟩ = some (.string n) := hm1.cell0
      have c1 : w1.cell? ⟨w.heap.size, 1, none⟩ = some (.int .u8 (o : Int)) := hm1.cell1
      have c2 : w1.cell? ⟨w.heap.size, 2, none⟩ = some (.string v) := hm1.cell2
      have HC1 := Lib.hid (HC.out w1 b1)
      go_wp2_with (go_at_call 11; refine HC1.out.mono ?_; rintro e w2 ⟨rfl, q2⟩)
      have b2 := b1.trans (q2.mono b1.size)
      have hm2 := hm1.below q2
      clear HL HC HC1 c0 c1 c2 hm0 hm1 hP hA q1 q2 b1
      go_loopw [5, 6] (fun rv iv wr => ∃ k : Nat, k ≤ ps.length ∧ iv = .int .i64 k ∧ OwnR wr (w.heap.size + 1) rv (without (ps.take k) n.toList) ∧ MtBlk wr w.heap.size (n, o, v) ∧ Below w.heap.size w wr) (fun _ iv _ => ps.length - (intOf iv).toNat)
      case atStart => exact ⟨0, Nat.zero_le _, rfl, World.ownsRow_nil _ _ _ _, hm2, b2⟩
      case round =>
        clear hm2 b2
        obtain ⟨k, hk, rfl, own, hm, hb⟩ := hrel
        have hbs := hb.size
        by_cases hlt : k < ps.length
        · have hkl : (k : Int) < (ps.length : Int) := by omega
          obtain ⟨pb, po, rfl, hc⟩ := h (by omega)
          obtain ⟨hc1, hc2⟩ := hc k hlt
          have hpb := World.block_lt_of_cell? w _ hc1
          rw [← hb.cell (p := ⟨pb, po + k * 2, none⟩) hpb] at hc1
          rw [← hb.cell (p := ⟨pb, po + k * 2 + 1, none⟩) hpb] at hc2
          have c0 : wr.cell? ⟨w.heap.size, 0, none⟩ = some (.string n) := hm.cell0
          have htk := without_take (n := n.toList) hlt
          have hwl := without_len (ps.take k) n.toList
          rw [List.length_take] at hwl
          clear hc h HO
          by_cases hE : nm ps[k] = n.toList
          · have hE' : (ps[k].1.toList == n.toList) = true := by simpa using hE
            rw [show (nm ps[k] != n.toList) = false by simpa using hE] at htk
            simp only [Bool.false_eq_true, if_false, List.append_nil] at htk
            rw [← htk] at own
            clear htk hE
            generalize ps[k].1 = pn at *
            go_wp2
            go_quiet (fail)
            go_wp2
            go_roundw
            case rel => exact ⟨k + 1, by omega, by go_num, own.drewN' _, hm.drewN' _, below_drewN hb _⟩
            case measure => simp [intOf]; omega
          · have hE' : (ps[k].1.toList == n.toList) = false := by simpa using hE
            rw [show (nm ps[k] != n.toList) = true by simpa using hE] at htk
            simp only [if_true] at htk
            have HTK := Lib.hid htk
            clear htk hE
            generalize ps[k] = pk at *
            obtain ⟨pn, pv⟩ := pk
            simp only at hc1 hc2 hE'
            go_wp2
            go_quiet (fail)
            obtain ⟨ra, rc, rfl, -, -⟩ := own.prs
            go_wp2_with (at_builtin; refine Hid.out ?_)
            refine Lib.hid ?_
            have hml := hm.lt
            have hbD := below_drewN hb nq
            have hA1 := hbD.alloc hbD.size (.cells #[.string pn, .string pv] 38)
            refine wpList_append_prs rfl _ _ rfl (w.heap.size + 1) _ (without (ps.take k) n.toList) rfl (World.ownsRow.alloc (own.drewN' _) _) (some ⟨wr.heap.size, 0, none⟩) 1 [(pn, pv)] rfl (pairs_lit (heap_new (wr.drewN _) _)) (fun e => by cases e) (by simp; omega) (by simp; omega) ?_
            intro v2 w2 own2 g2
            rw [← HTK.out] at own2
            have hlo := World.ownsRow.lt own
            have hb2 : Below w.heap.size w w2 := hA1.grown g2 hA1.size (fun j hj => by have := (hlo j hj).1; omega)
            have hm2 : MtBlk w2 w.heap.size (n, o, v) := (g2.block w.heap.size (by simp; omega) (fun e => by have := (hlo _ e.symm).1; omega)).trans ((Below.heap_alloc (wr.drewN _) _ _ (by show w.heap.size < wr.heap.size; omega)).trans hm)
            clear own hm hb g2 hA1 hbD hlo HTK
            go_wp2
            go_roundw
            case rel => exact ⟨k + 1, by omega, by go_num, own2, hm2, hb2⟩
            case measure => simp [intOf]; omega
        · obtain rfl : k = ps.length := by omega
          have hki : ¬ (ps.length : Int) < (ps.length : Int) := by omega
          rw [List.take_length] at own
          obtain ⟨ra, rc, rfl, hatF, hnilF⟩ := own.prs
          have hwl := without_len ps n.toList
          have hvF := without_vals (n := n.toList) hv
          have hm' := hm.lt
          have HMW := Lib.hid (mAsk_without ps (n, o, v))
          have HME := Lib.hid (mAsk_empty ps (n, o, v))
          simp only at HMW HME
          clear own h hv
          generalize without ps n.toList = F at *
          go_wp2_with fail
          refine wp_region_any (by kernel_rfl) ?_
          change wpAny _ _ _ _ _ _ _ (World.drew _)
          have hS : (fun w' : World => MtBlk w' w.heap.size (n, o, v)) wr.drew := hm
          refine wpAny_of_held (S := fun w' => MtBlk w' w.heap.size (n, o, v)) _ _ _ _ ?_
          refine wpAnyH_take (i := 1) (v := ?_) rfl (by as_aux_lemma => kernel_rfl) (by as_aux_lemma => kernel_rfl) (by as_aux_lemma => kernel_rfl) (fun _ _ _ h => h) (Or.inl ⟨by kernel_rfl, ?_⟩) hS ?_
          rotate_left
          · intro w hSw; have c0 := hSw.cell0; simp only at c0; go_simp
            first | done | with_reducible rfl
          skip
          refine wpAnyH_take (i := 3) (v := ?_) rfl (by as_aux_lemma => kernel_rfl) (by as_aux_lemma => kernel_rfl) (by as_aux_lemma => kernel_rfl) (fun _ _ _ h => h) (Or.inl ⟨by kernel_rfl, ?_⟩) hS ?_
          rotate_left
          · intro w hSw; have c0 := hSw.cell0; simp only at c0; go_simp
            first | done | with_reducible rfl
          skip
          refine wpAnyH_take (i := 4) (v := ?_) rfl (by as_aux_lemma => kernel_rfl) (by as_aux_lemma => kernel_rfl) (by as_aux_lemma => kernel_rfl) (fun _ _ _ h => h) (Or.inl ⟨by kernel_rfl, ?_⟩) hS ?_
          rotate_left
          · intro w hSw; have c0 := hSw.cell0; simp only at c0; go_simp
            first | done | with_reducible rfl
          skip
          refine wpAnyH_take (i := 5) (v := ?_) rfl (by as_aux_lemma => kernel_rfl) (by as_aux_lemma => kernel_rfl) (by as_aux_lemma => kernel_rfl) (fun _ _ _ h => h) (Or.inl ⟨by kernel_rfl, ?_⟩) hS ?_
          rotate_left
          · intro w hSw; have c0 := hSw.cell0; simp only at c0; go_simp
            first | done | with_reducible rfl
          skip
          refine wpAnyH_ready (rs := [0, 6]) (by as_aux_lemma => kernel_rfl) (by simp) ?_
          refine AllReadyH.cons rfl (fun K hK => ?_) (AllReadyH.cons rfl (fun K hK => ?_) AllReadyH.nil)
          · go_simp
            go_wp2_with fail
            refine hK.out _ _ ?_ (fun hS => ?_)
            · exact hS.below ((Below.refl _ _).alloc (Nat.le_refl _) _)
            clear hK K
            have bA : Below wr.heap.size wr (World.alloc wr.drew (.cells #[] 38)) := (Below.refl wr.heap.size wr).drew.alloc (Nat.le_refl _) _
            have ownA : OwnR (World.alloc wr.drew (.cells #[] 38)) wr.heap.size (.slice (some ⟨wr.heap.size, 0, none⟩) 0 0) [] := World.ownsRow_lit wr.drew #[] 0 (Nat.le_refl _) (by decide) rfl
            refine wpAnyH_ready (rs := [2, 6]) (by as_aux_lemma => kernel_rfl) (by simp) ?_
            refine AllReadyH.cons rfl (fun K hK => ?_) (AllReadyH.cons rfl (fun K hK => ?_) AllReadyH.nil)
            · refine step_append_prs rfl _ _ rfl wr.heap.size _ [] rfl ownA ra rc F rfl (hatF.below bA (Nat.le_refl _)) hnilF (by simp; omega) bA.size ?_
              intro v2 w2 own2 g2
              refine hK.out _ _ ?_ (fun hS => ?_)
              · exact (g2.block w.heap.size (by simp; omega) (fun e => by have := (World.ownsRow.lt ownA _ e.symm).1; omega)).trans hS
              clear hK K
              rw [List.nil_append] at own2
              have b2 : Below wr.heap.size wr w2 := bA.grown g2 bA.size (fun j hj => (World.ownsRow.lt ownA j hj).1)
              clear ownA g2 bA
              refine wpAnyH_ready (rs := [6]) (by as_aux_lemma => kernel_rfl) (by simp) ?_
              refine AllReadyH.cons rfl (fun K hK => ?_) AllReadyH.nil
              go_simp
              go_wp2_with fail
              refine hK.out _ _ ?_ (fun hS => ?_)
              · exact hS.below ((Below.refl _ _).alloc (Nat.le_refl _) _)
              clear hK K
              have b3 := b2.alloc b2.size (.cells #[.string n, .string ⟨#[]⟩] 38)
              have own3 : OwnR (w2.alloc (.cells #[.string n, .string ⟨#[]⟩] 38)) wr.heap.size v2 F := World.ownsRow.alloc own2 _
              refine wpAnyH_ready (rs := [7]) (by as_aux_lemma => kernel_rfl) (by simp) ?_
              refine AllReadyH.cons rfl (fun K hK => ?_) AllReadyH.nil
              refine step_append_prs rfl _ _ rfl wr.heap.size _ F rfl own3 (some ⟨w2.heap.size, 0, none⟩) 1 [(n, ⟨#[]⟩)] rfl (pairs_lit (heap_new w2 _)) (fun e => by cases e) (by simp; omega) b3.size ?_
              intro v7 w7 own7 g7
              refine hK.out _ _ ?_ (fun hS => ?_)
              · exact (g7.block w.heap.size (Nat.lt_of_lt_of_le hm' b3.size) (fun e => by have := (World.ownsRow.lt own3 _ e.symm).1; omega)).trans hS
              clear hK K
              have bb : Below wr.heap.size wr w7 := b3.grown g7 b3.size (fun j hj => (World.ownsRow.lt own3 j hj).1)
              clear own2 own3 b2 b3 g7
              have bw7 : Below w.heap.size w w7 := hb.trans (bb.mono hbs)
              obtain ⟨Es, hEs⟩ : ∃ Es, Es = F ++ [(n, (⟨#[]⟩ : ByteArray))] := ⟨_, rfl⟩
              rw [← hEs] at own7 HME
              have hEl : Es.length ≤ 41 := by rw [hEs]; simp; omega
              have hEv : ∀ p ∈ Es, p.2.size ≤ 9223372036854775807 := fun p hp => by
                rw [hEs] at hp
                rcases List.mem_append.1 hp with k | k
                · exact hvF p k
                · obtain rfl := List.mem_singleton.1 k
                  exact Nat.zero_le _
              obtain ⟨ea, ec, rfl, hatE, -⟩ := own7.prs
              clear hEs
              have hatF7 := hatF.below bb (Nat.le_refl _)
              have hm7 := hm.below bb
              clear own7 hatF hm
              refine wpAnyH_take (i := 8) (v := ?_) rfl (by as_aux_lemma => kernel_rfl) (by as_aux_lemma => kernel_rfl) (by as_aux_lemma => kernel_rfl) (fun _ _ _ h => h) (Or.inl ⟨by kernel_rfl, ?_⟩) hS ?_
              rotate_left
              · intro w hSw; have c0 := hSw.cell0; simp only at c0; go_simp
                first | done | with_reducible rfl
              skip
              refine wpAnyH_done (by kernel_rfl) ?_ _
              go_wp2_with fail
              by_cases hq : mAsk [] (n, o, v)
              · have H1 : Hid (∀ u, Below w.heap.size w u → PairsAt u ra F → Calls Tryd.prog 12 #[.agg #[.string n, .int .u8 (o : Int), .string v], .slice ra F.length rc] u fun e w' => e = .returned (.bool true) ∧ Below u.heap.size u w') := Lib.hid (fun u hu hp => (HO.out ra rc F F.length rfl u hu hp (by omega) hvF).mono fun e w' ⟨ht, hb⟩ => ⟨tells_yes ht (HMW.out.2 hq), hb⟩)
                have H2 : Hid (∀ u, Below w.heap.size w u → PairsAt u ea Es → Calls Tryd.prog 12 #[.agg #[.string n, .int .u8 (o : Int), .string v], .slice ea Es.length ec] u fun e w' => e = .returned (.bool true) ∧ Below u.heap.size u w') := Lib.hid (fun u hu hp => (HO.out ea ec Es Es.length rfl u hu hp (by omega) hEv).mono fun e w' ⟨ht, hb⟩ => ⟨tells_yes ht (HME.out.2 hq), hb⟩)
                have H3 : Hid (∀ u, Below w.heap.size w u → PairsAt u none [] → Calls Tryd.prog 12 #[.agg #[.string n, .int .u8 (o : Int), .string v], .slice none 0 0] u fun e w' => e = .returned (.bool true) ∧ Below u.heap.size u w') := Lib.hid (fun u hu hp => (HO.out none 0 [] 0 rfl u hu hp (Nat.zero_le _) (fun p hp => by cases hp)).mono fun e w' ⟨ht, hb⟩ => ⟨tells_yes ht hq, hb⟩)
                clear hq HO HMW HME hvF hEv
                have hg7 : PairsAt w7.drew ra F := hatF7
                have he7 : PairsAt w7.drew ea Es := hatE
                refine wp_region_any (by kernel_rfl) ?_
                change wpAny _ _ _ _ _ _ _ (World.drew _)
                have hS : (fun w' : World => MtBlk w' w.heap.size (n, o, v)) w7.drew := hm7
                refine wpAny_of_held (S := fun w' => MtBlk w' w.heap.size (n, o, v)) _ _ _ _ ?_
                refine wpAnyH_take (i := 0) (v := ?_) rfl (by as_aux_lemma => kernel_rfl) (by as_aux_lemma => kernel_rfl) (by as_aux_lemma => kernel_rfl) (fun _ _ _ h => h) (Or.inl ⟨by kernel_rfl, ?_⟩) hS ?_
                rotate_left
                · intro w hSw; have c0 := hSw.cell0; have c1 := hSw.cell1; have c2 := hSw.cell2; simp only at c0 c1 c2; go_simp
                  first | done | with_reducible rfl
                skip
                refine wpAnyH_take (i := 1) (v := ?_) rfl (by as_aux_lemma => kernel_rfl) (by as_aux_lemma => kernel_rfl) (by as_aux_lemma => kernel_rfl) (fun _ _ _ h => h) (Or.inl ⟨by kernel_rfl, ?_⟩) hS ?_
                rotate_left
                · intro w hSw; have c0 := hSw.cell0; have c1 := hSw.cell1; have c2 := hSw.cell2; simp only at c0 c1 c2; go_simp
                  first | done | with_reducible rfl
                skip
                refine wpAnyH_take (i := 3) (v := ?_) rfl (by as_aux_lemma => kernel_rfl) (by as_aux_lemma => kernel_rfl) (by as_aux_lemma => kernel_rfl) (fun _ _ _ h => h) (Or.inl ⟨by kernel_rfl, ?_⟩) hS ?_
                rotate_left
                · intro w hSw; have c0 := hSw.cell0; have c1 := hSw.cell1; have c2 := hSw.cell2; simp only at c0 c1 c2; go_simp
                  first | done | with_reducible rfl
                skip
                refine wpAnyH_take (i := 4) (v := ?_) rfl (by as_aux_lemma => kernel_rfl) (by as_aux_lemma => kernel_rfl) (by as_aux_lemma => kernel_rfl) (fun _ _ _ h => h) (Or.inl ⟨by kernel_rfl, ?_⟩) hS ?_
                rotate_left
                · intro w hSw; have c0 := hSw.cell0; have c1 := hSw.cell1; have c2 := hSw.cell2; simp only at c0 c1 c2; go_simp
                  first | done | with_reducible rfl
                skip
                refine wpAnyH_ready (rs := [2]) (by as_aux_lemma => kernel_rfl) (by simp) ?_
                refine AllReadyH.cons rfl (fun K hK => ?_) AllReadyH.nil
                go_simp
                go_wp2_with (have y0 := bw7.drew; go_at_call 12; refine (H1.out _ y0 hg7).mono ?_; rintro e x1 ⟨rfl, p1⟩; have y1 := y0.trans (p1.mono y0.size))
                refine hK.out _ _ ?_ (fun hS => ?_)
                · exact hS.below p1
                clear hK K
                refine wpAnyH_ready (rs := [5]) (by as_aux_lemma => kernel_rfl) (by simp) ?_
                refine AllReadyH.cons rfl (fun K hK => ?_) AllReadyH.nil
                go_simp
                go_wp2_with (go_at_call 12; refine (H2.out _ y1 (he7.below p1 (Nat.le_refl _))).mono ?_; rintro e x2 ⟨rfl, p2⟩; have y2 := y1.trans (p2.mono y1.size))
                refine hK.out _ _ ?_ (fun hS => ?_)
                · exact hS.below p2
                clear hK K
                refine wpAnyH_take (i := 6) (v := ?_) rfl (by as_aux_lemma => kernel_rfl) (by as_aux_lemma => kernel_rfl) (by as_aux_lemma => kernel_rfl) (fun _ _ _ h => h) (Or.inl ⟨by kernel_rfl, ?_⟩) hS ?_
                rotate_left
                · intro w hSw; have c0 := hSw.cell0; have c1 := hSw.cell1; have c2 := hSw.cell2; simp only at c0 c1 c2; go_simp
                  first | done | with_reducible rfl
                skip
                refine wpAnyH_take (i := 7) (v := ?_) rfl (by as_aux_lemma => kernel_rfl) (by as_aux_lemma => kernel_rfl) (by as_aux_lemma => kernel_rfl) (fun _ _ _ h => h) (Or.inl ⟨by kernel_rfl, ?_⟩) hS ?_
                rotate_left
                · intro w hSw; have c0 := hSw.cell0; have c1 := hSw.cell1; have c2 := hSw.cell2; simp only at c0 c1 c2; go_simp
                  first | done | with_reducible rfl
                skip
                refine wpAnyH_take (i := 8) (v := ?_) rfl (by as_aux_lemma => kernel_rfl) (by as_aux_lemma => kernel_rfl) (by as_aux_lemma => kernel_rfl) (fun _ _ _ h => h) (Or.inl ⟨by kernel_rfl, ?_⟩) hS ?_
                rotate_left
                · intro w hSw; have c0 := hSw.cell0; have c1 := hSw.cell1; have c2 := hSw.cell2; simp only at c0 c1 c2; go_simp
                  first | done | with_reducible rfl
                skip
                refine wpAnyH_take (i := 10) (v := ?_) rfl (by as_aux_lemma => kernel_rfl) (by as_aux_lemma => kernel_rfl) (by as_aux_lemma => kernel_rfl) (fun _ _ _ h => h) (Or.inl ⟨by kernel_rfl, ?_⟩) hS ?_
                rotate_left
                · intro w hSw; have c0 := hSw.cell0; have c1 := hSw.cell1; have c2 := hSw.cell2; simp only at c0 c1 c2; go_simp
                  first | done | with_reducible rfl
                skip
                refine wpAnyH_take (i := 11) (v := ?_) rfl (by as_aux_lemma => kernel_rfl) (by as_aux_lemma => kernel_rfl) (by as_aux_lemma => kernel_rfl) (fun _ _ _ h => h) (Or.inl ⟨by kernel_rfl, ?_⟩) hS ?_
                rotate_left
                · intro w hSw; have c0 := hSw.cell0; have c1 := hSw.cell1; have c2 := hSw.cell2; simp only at c0 c1 c2; go_simp
                  first | done | with_reducible rfl
                skip
                refine wpAnyH_ready (rs := [9]) (by as_aux_lemma => kernel_rfl) (by simp) ?_
                refine AllReadyH.cons rfl (fun K hK => ?_) AllReadyH.nil
                go_simp
                go_wp2_with (go_at_call 12; refine (H3.out _ y2 (fun k => absurd k (by simp))).mono ?_; rintro e x3 ⟨rfl, p3⟩; have y3 := y2.trans (p3.mono y2.size))
                refine hK.out _ _ ?_ (fun hS => ?_)
                · exact hS.below p3
                clear hK K
                refine wpAnyH_ready (rs := [12]) (by as_aux_lemma => kernel_rfl) (by simp) ?_
                refine AllReadyH.cons rfl (fun K hK => ?_) AllReadyH.nil
                go_simp
                go_wp2_with (go_at_call 12; refine (H1.out _ y3 (((hg7.below p1 (Nat.le_refl _)).below p2 (Nat.le_refl _)).below p3 (Nat.le_refl _))).mono ?_; rintro e x4 ⟨rfl, p4⟩; have y4 := y3.trans (p4.mono y3.size))
                refine hK.out _ _ ?_ (fun hS => ?_)
                · exact hS.below p4
                clear hK K
                refine wpAnyH_take (i := 13) (v := ?_) rfl (by as_aux_lemma => kernel_rfl) (by as_aux_lemma => kernel_rfl) (by as_aux_lemma => kernel_rfl) (fun _ _ _ h => h) (Or.inl ⟨by kernel_rfl, ?_⟩) hS ?_
                rotate_left
                · intro w hSw; have c0 := hSw.cell0; have c1 := hSw.cell1; have c2 := hSw.cell2; simp only at c0 c1 c2; go_simp
                  first | done | with_reducible rfl
                skip
                refine wpAnyH_take (i := 14) (v := ?_) rfl (by as_aux_lemma => kernel_rfl) (by as_aux_lemma => kernel_rfl) (by as_aux_lemma => kernel_rfl) (fun _ _ _ h => h) (Or.inl ⟨by kernel_rfl, ?_⟩) hS ?_
                rotate_left
                · intro w hSw; have c0 := hSw.cell0; have c1 := hSw.cell1; have c2 := hSw.cell2; simp only at c0 c1 c2; go_simp
                  first | done | with_reducible rfl
                skip
                refine wpAnyH_take (i := 15) (v := ?_) rfl (by as_aux_lemma => kernel_rfl) (by as_aux_lemma => kernel_rfl) (by as_aux_lemma => kernel_rfl) (fun _ _ _ h => h) (Or.inl ⟨by kernel_rfl, ?_⟩) hS ?_
                rotate_left
                · intro w hSw; have c0 := hSw.cell0; have c1 := hSw.cell1; have c2 := hSw.cell2; simp only at c0 c1 c2; go_simp
                  first | done | with_reducible rfl
                skip
                refine wpAnyH_ready (rs := [16]) (by as_aux_lemma => kernel_rfl) (by simp) ?_
                refine AllReadyH.cons rfl (fun K hK => ?_) AllReadyH.nil
                go_simp
                go_wp2_with (go_at_call 7; refine (HW.out _ y4).mono ?_; rintro e x5 ⟨rfl, p5⟩; have y5 := y4.trans (p5.mono y4.size))
                refine hK.out _ _ ?_ (fun hS => ?_)
                · exact hS.below p5
                clear hK K
                refine wpAnyH_take (i := 17) (v := ?_) rfl (by as_aux_lemma => kernel_rfl) (by as_aux_lemma => kernel_rfl) (by as_aux_lemma => kernel_rfl) (fun _ _ _ h => h) (Or.inl ⟨by kernel_rfl, ?_⟩) hS ?_
                rotate_left
                · intro w hSw; have c0 := hSw.cell0; have c1 := hSw.cell1; have c2 := hSw.cell2; simp only at c0 c1 c2; go_simp
                  first | done | with_reducible rfl
                skip
                refine wpAnyH_take (i := 18) (v := ?_) rfl (by as_aux_lemma => kernel_rfl) (by as_aux_lemma => kernel_rfl) (by as_aux_lemma => kernel_rfl) (fun _ _ _ h => h) (Or.inl ⟨by kernel_rfl, ?_⟩) hS ?_
                rotate_left
                · intro w hSw; have c0 := hSw.cell0; have c1 := hSw.cell1; have c2 := hSw.cell2; simp only at c0 c1 c2; go_simp
                  first | done | with_reducible rfl
                skip
                refine wpAnyH_done (by kernel_rfl) ?_ _
                go_wp2
                go_ret
                exact ⟨rfl, y5⟩
              · have H1 : Hid (∀ u, Below w.heap.size w u → PairsAt u ra F → Calls Tryd.prog 12 #[.agg #[.string n, .int .u8 (o : Int), .string v], .slice ra F.length rc] u fun e w' => e = .returned (.bool false) ∧ Below u.heap.size u w') := Lib.hid (fun u hu hp => (HO.out ra rc F F.length rfl u hu hp (by omega) hvF).mono fun e w' ⟨ht, hb⟩ => ⟨tells_no ht (fun k => hq (HMW.out.1 k)), hb⟩)
                have H2 : Hid (∀ u, Below w.heap.size w u → PairsAt u ea Es → Calls Tryd.prog 12 #[.agg #[.string n, .int .u8 (o : Int), .string v], .slice ea Es.length ec] u fun e w' => e = .returned (.bool false) ∧ Below u.heap.size u w') := Lib.hid (fun u hu hp => (HO.out ea ec Es Es.length rfl u hu hp (by omega) hEv).mono fun e w' ⟨ht, hb⟩ => ⟨tells_no ht (fun k => hq (HME.out.1 k)), hb⟩)
                have H3 : Hid (∀ u, Below w.heap.size w u → PairsAt u none [] → Calls Tryd.prog 12 #[.agg #[.string n, .int .u8 (o : Int), .string v], .slice none 0 0] u fun e w' => e = .returned (.bool false) ∧ Below u.heap.size u w') := Lib.hid (fun u hu hp => (HO.out none 0 [] 0 rfl u hu hp (Nat.zero_le _) (fun p hp => by cases hp)).mono fun e w' ⟨ht, hb⟩ => ⟨tells_no ht hq, hb⟩)
                clear hq HO HMW HME hvF hEv
                have hg7 : PairsAt w7.drew ra F := hatF7
                have he7 : PairsAt w7.drew ea Es := hatE
                refine wp_region_any (by kernel_rfl) ?_
                change wpAny _ _ _ _ _ _ _ (World.drew _)
                have hS : (fun w' : World => MtBlk w' w.heap.size (n, o, v)) w7.drew := hm7
                refine wpAny_of_held (S := fun w' => MtBlk w' w.heap.size (n, o, v)) _ _ _ _ ?_
                refine wpAnyH_take (i := 0) (v := ?_) rfl (by as_aux_lemma => kernel_rfl) (by as_aux_lemma => kernel_rfl) (by as_aux_lemma => kernel_rfl) (fun _ _ _ h => h) (Or.inl ⟨by kernel_rfl, ?_⟩) hS ?_
                rotate_left
                · intro w hSw; have c0 := hSw.cell0; have c1 := hSw.cell1; have c2 := hSw.cell2; simp only at c0 c1 c2; go_simp
                  first | done | with_reducible rfl
                skip
                refine wpAnyH_take (i := 1) (v := ?_) rfl (by as_aux_lemma => kernel_rfl) (by as_aux_lemma => kernel_rfl) (by as_aux_lemma => kernel_rfl) (fun _ _ _ h => h) (Or.inl ⟨by kernel_rfl, ?_⟩) hS ?_
                rotate_left
                · intro w hSw; have c0 := hSw.cell0; have c1 := hSw.cell1; have c2 := hSw.cell2; simp only at c0 c1 c2; go_simp
                  first | done | with_reducible rfl
                skip
                refine wpAnyH_take (i := 3) (v := ?_) rfl (by as_aux_lemma => kernel_rfl) (by as_aux_lemma => kernel_rfl) (by as_aux_lemma => kernel_rfl) (fun _ _ _ h => h) (Or.inl ⟨by kernel_rfl, ?_⟩) hS ?_
                rotate_left
                · intro w hSw; have c0 := hSw.cell0; have c1 := hSw.cell1; have c2 := hSw.cell2; simp only at c0 c1 c2; go_simp
                  first | done | with_reducible rfl
                skip
                refine wpAnyH_take (i := 4) (v := ?_) rfl (by as_aux_lemma => kernel_rfl) (by as_aux_lemma => kernel_rfl) (by as_aux_lemma => kernel_rfl) (fun _ _ _ h => h) (Or.inl ⟨by kernel_rfl, ?_⟩) hS ?_
                rotate_left
                · intro w hSw; have c0 := hSw.cell0; have c1 := hSw.cell1; have c2 := hSw.cell2; simp only at c0 c1 c2; go_simp
                  first | done | with_reducible rfl
                skip
                refine wpAnyH_ready (rs := [2]) (by as_aux_lemma => kernel_rfl) (by simp) ?_
                refine AllReadyH.cons rfl (fun K hK => ?_) AllReadyH.nil
                go_simp
                go_wp2_with (have y0 := bw7.drew; go_at_call 12; refine (H1.out _ y0 hg7).mono ?_; rintro e x1 ⟨rfl, p1⟩; have y1 := y0.trans (p1.mono y0.size))
                refine hK.out _ _ ?_ (fun hS => ?_)
                · exact hS.below p1
                clear hK K
                refine wpAnyH_ready (rs := [5]) (by as_aux_lemma => kernel_rfl) (by simp) ?_
                refine AllReadyH.cons rfl (fun K hK => ?_) AllReadyH.nil
                go_simp
                go_wp2_with (go_at_call 12; refine (H2.out _ y1 (he7.below p1 (Nat.le_refl _))).mono ?_; rintro e x2 ⟨rfl, p2⟩; have y2 := y1.trans (p2.mono y1.size))
                refine hK.out _ _ ?_ (fun hS => ?_)
                · exact hS.below p2
                clear hK K
                refine wpAnyH_take (i := 6) (v := ?_) rfl (by as_aux_lemma => kernel_rfl) (by as_aux_lemma => kernel_rfl) (by as_aux_lemma => kernel_rfl) (fun _ _ _ h => h) (Or.inl ⟨by kernel_rfl, ?_⟩) hS ?_
                rotate_left
                · intro w hSw; have c0 := hSw.cell0; have c1 := hSw.cell1; have c2 := hSw.cell2; simp only at c0 c1 c2; go_simp
                  first | done | with_reducible rfl
                skip
                refine wpAnyH_take (i := 7) (v := ?_) rfl (by as_aux_lemma => kernel_rfl) (by as_aux_lemma => kernel_rfl) (by as_aux_lemma => kernel_rfl) (fun _ _ _ h => h) (Or.inl ⟨by kernel_rfl, ?_⟩) hS ?_
                rotate_left
                · intro w hSw; have c0 := hSw.cell0; have c1 := hSw.cell1; have c2 := hSw.cell2; simp only at c0 c1 c2; go_simp
                  first | done | with_reducible rfl
                skip
                refine wpAnyH_take (i := 8) (v := ?_) rfl (by as_aux_lemma => kernel_rfl) (by as_aux_lemma => kernel_rfl) (by as_aux_lemma => kernel_rfl) (fun _ _ _ h => h) (Or.inl ⟨by kernel_rfl, ?_⟩) hS ?_
                rotate_left
                · intro w hSw; have c0 := hSw.cell0; have c1 := hSw.cell1; have c2 := hSw.cell2; simp only at c0 c1 c2; go_simp
                  first | done | with_reducible rfl
                skip
                refine wpAnyH_take (i := 10) (v := ?_) rfl (by as_aux_lemma => kernel_rfl) (by as_aux_lemma => kernel_rfl) (by as_aux_lemma => kernel_rfl) (fun _ _ _ h => h) (Or.inl ⟨by kernel_rfl, ?_⟩) hS ?_
                rotate_left
                · intro w hSw; have c0 := hSw.cell0; have c1 := hSw.cell1; have c2 := hSw.cell2; simp only at c0 c1 c2; go_simp
                  first | done | with_reducible rfl
                skip
                refine wpAnyH_take (i := 11) (v := ?_) rfl (by as_aux_lemma => kernel_rfl) (by as_aux_lemma => kernel_rfl) (by as_aux_lemma => kernel_rfl) (fun _ _ _ h => h) (Or.inl ⟨by kernel_rfl, ?_⟩) hS ?_
                rotate_left
                · intro w hSw; have c0 := hSw.cell0; have c1 := hSw.cell1; have c2 := hSw.cell2; simp only at c0 c1 c2; go_simp
                  first | done | with_reducible rfl
                skip
                refine wpAnyH_ready (rs := [9]) (by as_aux_lemma => kernel_rfl) (by simp) ?_
                refine AllReadyH.cons rfl (fun K hK => ?_) AllReadyH.nil
                go_simp
                go_wp2_with (go_at_call 12; refine (H3.out _ y2 (fun k => absurd k (by simp))).mono ?_; rintro e x3 ⟨rfl, p3⟩; have y3 := y2.trans (p3.mono y2.size))
                refine hK.out _ _ ?_ (fun hS => ?_)
                · exact hS.below p3
                clear hK K
                refine wpAnyH_ready (rs := [12]) (by as_aux_lemma => kernel_rfl) (by simp) ?_
                refine AllReadyH.cons rfl (fun K hK => ?_) AllReadyH.nil
                go_simp
                go_wp2_with (go_at_call 12; refine (H1.out _ y3 (((hg7.below p1 (Nat.le_refl _)).below p2 (Nat.le_refl _)).below p3 (Nat.le_refl _))).mono ?_; rintro e x4 ⟨rfl, p4⟩; have y4 := y3.trans (p4.mono y3.size))
                refine hK.out _ _ ?_ (fun hS => ?_)
                · exact hS.below p4
                clear hK K
                refine wpAnyH_take (i := 13) (v := ?_) rfl (by as_aux_lemma => kernel_rfl) (by as_aux_lemma => kernel_rfl) (by as_aux_lemma => kernel_rfl) (fun _ _ _ h => h) (Or.inl ⟨by kernel_rfl, ?_⟩) hS ?_
                rotate_left
                · intro w hSw; have c0 := hSw.cell0; have c1 := hSw.cell1; have c2 := hSw.cell2; simp only at c0 c1 c2; go_simp
                  first | done | with_reducible rfl
                skip
                refine wpAnyH_take (i := 14) (v := ?_) rfl (by as_aux_lemma => kernel_rfl) (by as_aux_lemma => kernel_rfl) (by as_aux_lemma => kernel_rfl) (fun _ _ _ h => h) (Or.inl ⟨by kernel_rfl, ?_⟩) hS ?_
                rotate_left
                · intro w hSw; have c0 := hSw.cell0; have c1 := hSw.cell1; have c2 := hSw.cell2; simp only at c0 c1 c2; go_simp
                  first | done | with_reducible rfl
                skip
                refine wpAnyH_take (i := 15) (v := ?_) rfl (by as_aux_lemma => kernel_rfl) (by as_aux_lemma => kernel_rfl) (by as_aux_lemma => kernel_rfl) (fun _ _ _ h => h) (Or.inl ⟨by kernel_rfl, ?_⟩) hS ?_
                rotate_left
                · intro w hSw; have c0 := hSw.cell0; have c1 := hSw.cell1; have c2 := hSw.cell2; simp only at c0 c1 c2; go_simp
                  first | done | with_reducible rfl
                skip
                refine wpAnyH_ready (rs := [16]) (by as_aux_lemma => kernel_rfl) (by simp) ?_
                refine AllReadyH.cons rfl (fun K hK => ?_) AllReadyH.nil
                go_simp
                go_wp2_with (go_at_call 7; refine (HW.out _ y4).mono ?_; rintro e x5 ⟨rfl, p5⟩; have y5 := y4.trans (p5.mono y4.size))
                refine hK.out _ _ ?_ (fun hS => ?_)
                · exact hS.below p5
                clear hK K
                refine wpAnyH_take (i := 17) (v := ?_) rfl (by as_aux_lemma => kernel_rfl) (by as_aux_lemma => kernel_rfl) (by as_aux_lemma => kernel_rfl) (fun _ _ _ h => h) (Or.inl ⟨by kernel_rfl, ?_⟩) hS ?_
                rotate_left
                · intro w hSw; have c0 := hSw.cell0; have c1 := hSw.cell1; have c2 := hSw.cell2; simp only at c0 c1 c2; go_simp
                  first | done | with_reducible rfl
                skip
                refine wpAnyH_take (i := 18) (v := ?_) rfl (by as_aux_lemma => kernel_rfl) (by as_aux_lemma => kernel_rfl) (by as_aux_lemma => kernel_rfl) (fun _ _ _ h => h) (Or.inl ⟨by kernel_rfl, ?_⟩) hS ?_
                rotate_left
                · intro w hSw; have c0 := hSw.cell0; have c1 := hSw.cell1; have c2 := hSw.cell2; simp only at c0 c1 c2; go_simp
                  first | done | with_reducible rfl
                skip
                refine wpAnyH_done (by kernel_rfl) ?_ _
                go_wp2
                go_ret
                exact ⟨rfl, y5⟩
            · go_simp
              go_wp2_with fail
              refine hK.out _ _ ?_ (fun hS => ?_)
              · exact hS.below ((Below.refl _ _).alloc (Nat.le_refl _) _)
              clear hK K
              have bB := bA.alloc bA.size (.cells #[.string n, .string ⟨#[]⟩] 38)
              have ownB : OwnR (World.alloc (World.alloc wr.drew (.cells #[] 38)) (.cells #[.string n, .string ⟨#[]⟩] 38)) wr.heap.size (.slice (some ⟨wr.heap.size, 0, none⟩) 0 0) [] := World.ownsRow.alloc ownA _
              have hlit : (World.alloc (World.alloc wr.drew (.cells #[] 38)) (.cells #[.string n, .string ⟨#[]⟩] 38)).heap[wr.heap.size + 1]? = some (.cells #[.string n, .string ⟨#[]⟩] 38 (0, 0)) := by
                have k := heap_new (World.alloc wr.drew (.cells #[] 38)) (.cells #[.string n, .string ⟨#[]⟩] 38)
                rw [World.size_alloc] at k
                exact k
              refine wpAnyH_ready (rs := [2]) (by as_aux_lemma => kernel_rfl) (by simp) ?_
              refine AllReadyH.cons rfl (fun K hK => ?_) AllReadyH.nil
              refine step_append_prs rfl _ _ rfl wr.heap.size _ [] rfl ownB ra rc F rfl (hatF.below bB (Nat.le_refl _)) hnilF (by simp; omega) bB.size ?_
              intro v2 w2 own2 g2
              refine hK.out _ _ ?_ (fun hS => ?_)
              · exact (g2.block w.heap.size (by simp; omega) (fun e => by have := (World.ownsRow.lt ownB _ e.symm).1; omega)).trans hS
              clear hK K
              rw [List.nil_append] at own2
              have b2 : Below wr.heap.size wr w2 := bB.grown g2 bB.size (fun j hj => (World.ownsRow.lt ownB j hj).1)
              have hlit2 := (g2.block (wr.heap.size + 1) (Array.getElem?_eq_some_iff.1 hlit).1 (fun e => by have e2 : wr.heap.size + 1 = wr.heap.size := Option.some.inj e; omega)).trans hlit
              clear ownA ownB g2 bA bB hlit
              refine wpAnyH_ready (rs := [7]) (by as_aux_lemma => kernel_rfl) (by simp) ?_
              refine AllReadyH.cons rfl (fun K hK => ?_) AllReadyH.nil
              refine step_append_prs rfl _ _ rfl wr.heap.size _ F rfl own2 (some ⟨wr.heap.size + 1, 0, none⟩) 1 [(n, ⟨#[]⟩)] rfl (pairs_lit hlit2) (fun e => by cases e) (by simp; omega) b2.size ?_
              intro v7 w7 own7 g7
              refine hK.out _ _ ?_ (fun hS => ?_)
              · exact (g7.block w.heap.size (Nat.lt_of_lt_of_le hm' b2.size) (fun e => by have := (World.ownsRow.lt own2 _ e.symm).1; omega)).trans hS
              clear hK K
              have bb : Below wr.heap.size wr w7 := b2.grown g7 b2.size (fun j hj => (World.ownsRow.lt own2 j hj).1)
              clear own2 b2 g7 hlit2
              have bw7 : Below w.heap.size w w7 := hb.trans (bb.mono hbs)
              obtain ⟨Es, hEs⟩ : ∃ Es, Es = F ++ [(n, (⟨#[]⟩ : ByteArray))] := ⟨_, rfl⟩
              rw [← hEs] at own7 HME
              have hEl : Es.length ≤ 41 := by rw [hEs]; simp; omega
              have hEv : ∀ p ∈ Es, p.2.size ≤ 9223372036854775807 := fun p hp => by
                rw [hEs] at hp
                rcases List.mem_append.1 hp with k | k
                · exact hvF p k
                · obtain rfl := List.mem_singleton.1 k
                  exact Nat.zero_le _
              obtain ⟨ea, ec, rfl, hatE, -⟩ := own7.prs
              clear hEs
              have hatF7 := hatF.below bb (Nat.le_refl _)
              have hm7 := hm.below bb
              clear own7 hatF hm
              refine wpAnyH_take (i := 8) (v := ?_) rfl (by as_aux_lemma => kernel_rfl) (by as_aux_lemma => kernel_rfl) (by as_aux_lemma => kernel_rfl) (fun _ _ _ h => h) (Or.inl ⟨by kernel_rfl, ?_⟩) hS ?_
              rotate_left
              · intro w hSw; have c0 := hSw.cell0; simp only at c0; go_simp
                first | done | with_reducible rfl
              skip
              refine wpAnyH_done (by kernel_rfl) ?_ _
              go_wp2_with fail
              by_cases hq : mAsk [] (n, o, v)
              · have H1 : Hid (∀ u, Below w.heap.size w u → PairsAt u ra F → Calls Tryd.prog 12 #[.agg #[.string n, .int .u8 (o : Int), .string v], .slice ra F.length rc] u fun e w' => e = .returned (.bool true) ∧ Below u.heap.size u w') := Lib.hid (fun u hu hp => (HO.out ra rc F F.length rfl u hu hp (by omega) hvF).mono fun e w' ⟨ht, hb⟩ => ⟨tells_yes ht (HMW.out.2 hq), hb⟩)
                have H2 : Hid (∀ u, Below w.heap.size w u → PairsAt u ea Es → Calls Tryd.prog 12 #[.agg #[.string n, .int .u8 (o : Int), .string v], .slice ea Es.length ec] u fun e w' => e = .returned (.bool true) ∧ Below u.heap.size u w') := Lib.hid (fun u hu hp => (HO.out ea ec Es Es.length rfl u hu hp (by omega) hEv).mono fun e w' ⟨ht, hb⟩ => ⟨tells_yes ht (HME.out.2 hq), hb⟩)
                have H3 : Hid (∀ u, Below w.heap.size w u → PairsAt u none [] → Calls Tryd.prog 12 #[.agg #[.string n, .int .u8 (o : Int), .string v], .slice none 0 0] u fun e w' => e = .returned (.bool true) ∧ Below u.heap.size u w') := Lib.hid (fun u hu hp => (HO.out none 0 [] 0 rfl u hu hp (Nat.zero_le _) (fun p hp => by cases hp)).mono fun e w' ⟨ht, hb⟩ => ⟨tells_yes ht hq, hb⟩)
                clear hq HO HMW HME hvF hEv
                have hg7 : PairsAt w7.drew ra F := hatF7
                have he7 : PairsAt w7.drew ea Es := hatE
                refine wp_region_any (by kernel_rfl) ?_
                change wpAny _ _ _ _ _ _ _ (World.drew _)
                have hS : (fun w' : World => MtBlk w' w.heap.size (n, o, v)) w7.drew := hm7
                refine wpAny_of_held (S := fun w' => MtBlk w' w.heap.size (n, o, v)) _ _ _ _ ?_
                refine wpAnyH_take (i := 0) (v := ?_) rfl (by as_aux_lemma => kernel_rfl) (by as_aux_lemma => kernel_rfl) (by as_aux_lemma => kernel_rfl) (fun _ _ _ h => h) (Or.inl ⟨by kernel_rfl, ?_⟩) hS ?_
                rotate_left
                · intro w hSw; have c0 := hSw.cell0; have c1 := hSw.cell1; have c2 := hSw.cell2; simp only at c0 c1 c2; go_simp
                  first | done | with_reducible rfl
                skip
                refine wpAnyH_take (i := 1) (v := ?_) rfl (by as_aux_lemma => kernel_rfl) (by as_aux_lemma => kernel_rfl) (by as_aux_lemma => kernel_rfl) (fun _ _ _ h => h) (Or.inl ⟨by kernel_rfl, ?_⟩) hS ?_
                rotate_left
                · intro w hSw; have c0 := hSw.cell0; have c1 := hSw.cell1; have c2 := hSw.cell2; simp only at c0 c1 c2; go_simp
                  first | done | with_reducible rfl
                skip
                refine wpAnyH_take (i := 3) (v := ?_) rfl (by as_aux_lemma => kernel_rfl) (by as_aux_lemma => kernel_rfl) (by as_aux_lemma => kernel_rfl) (fun _ _ _ h => h) (Or.inl ⟨by kernel_rfl, ?_⟩) hS ?_
                rotate_left
                · intro w hSw; have c0 := hSw.cell0; have c1 := hSw.cell1; have c2 := hSw.cell2; simp only at c0 c1 c2; go_simp
                  first | done | with_reducible rfl
                skip
                refine wpAnyH_take (i := 4) (v := ?_) rfl (by as_aux_lemma => kernel_rfl) (by as_aux_lemma => kernel_rfl) (by as_aux_lemma => kernel_rfl) (fun _ _ _ h => h) (Or.inl ⟨by kernel_rfl, ?_⟩) hS ?_
                rotate_left
                · intro w hSw; have c0 := hSw.cell0; have c1 := hSw.cell1; have c2 := hSw.cell2; simp only at c0 c1 c2; go_simp
                  first | done | with_reducible rfl
                skip
                refine wpAnyH_ready (rs := [2]) (by as_aux_lemma => kernel_rfl) (by simp) ?_
                refine AllReadyH.cons rfl (fun K hK => ?_) AllReadyH.nil
                go_simp
                go_wp2_with (have y0 := bw7.drew; go_at_call 12; refine (H1.out _ y0 hg7).mono ?_; rintro e x1 ⟨rfl, p1⟩; have y1 := y0.trans (p1.mono y0.size))
                refine hK.out _ _ ?_ (fun hS => ?_)
                · exact hS.below p1
                clear hK K
                refine wpAnyH_ready (rs := [5]) (by as_aux_lemma => kernel_rfl) (by simp) ?_
                refine AllReadyH.cons rfl (fun K hK => ?_) AllReadyH.nil
                go_simp
                go_wp2_with (go_at_call 12; refine (H2.out _ y1 (he7.below p1 (Nat.le_refl _))).mono ?_; rintro e x2 ⟨rfl, p2⟩; have y2 := y1.trans (p2.mono y1.size))
                refine hK.out _ _ ?_ (fun hS => ?_)
                · exact hS.below p2
                clear hK K
                refine wpAnyH_take (i := 6) (v := ?_) rfl (by as_aux_lemma => kernel_rfl) (by as_aux_lemma => kernel_rfl) (by as_aux_lemma => kernel_rfl) (fun _ _ _ h => h) (Or.inl ⟨by kernel_rfl, ?_⟩) hS ?_
                rotate_left
                · intro w hSw; have c0 := hSw.cell0; have c1 := hSw.cell1; have c2 := hSw.cell2; simp only at c0 c1 c2; go_simp
                  first | done | with_reducible rfl
                skip
                refine wpAnyH_take (i := 7) (v := ?_) rfl (by as_aux_lemma => kernel_rfl) (by as_aux_lemma => kernel_rfl) (by as_aux_lemma => kernel_rfl) (fun _ _ _ h => h) (Or.inl ⟨by kernel_rfl, ?_⟩) hS ?_
                rotate_left
                · intro w hSw; have c0 := hSw.cell0; have c1 := hSw.cell1; have c2 := hSw.cell2; simp only at c0 c1 c2; go_simp
                  first | done | with_reducible rfl
                skip
                refine wpAnyH_take (i := 8) (v := ?_) rfl (by as_aux_lemma => kernel_rfl) (by as_aux_lemma => kernel_rfl) (by as_aux_lemma => kernel_rfl) (fun _ _ _ h => h) (Or.inl ⟨by kernel_rfl, ?_⟩) hS ?_
                rotate_left
                · intro w hSw; have c0 := hSw.cell0; have c1 := hSw.cell1; have c2 := hSw.cell2; simp only at c0 c1 c2; go_simp
                  first | done | with_reducible rfl
                skip
                refine wpAnyH_take (i := 10) (v := ?_) rfl (by as_aux_lemma => kernel_rfl) (by as_aux_lemma => kernel_rfl) (by as_aux_lemma => kernel_rfl) (fun _ _ _ h => h) (Or.inl ⟨by kernel_rfl, ?_⟩) hS ?_
                rotate_left
                · intro w hSw; have c0 := hSw.cell0; have c1 := hSw.cell1; have c2 := hSw.cell2; simp only at c0 c1 c2; go_simp
                  first | done | with_reducible rfl
                skip
                refine wpAnyH_take (i := 11) (v := ?_) rfl (by as_aux_lemma => kernel_rfl) (by as_aux_lemma => kernel_rfl) (by as_aux_lemma => kernel_rfl) (fun _ _ _ h => h) (Or.inl ⟨by kernel_rfl, ?_⟩) hS ?_
                rotate_left
                · intro w hSw; have c0 := hSw.cell0; have c1 := hSw.cell1; have c2 := hSw.cell2; simp only at c0 c1 c2; go_simp
                  first | done | with_reducible rfl
                skip
                refine wpAnyH_ready (rs := [9]) (by as_aux_lemma => kernel_rfl) (by simp) ?_
                refine AllReadyH.cons rfl (fun K hK => ?_) AllReadyH.nil
                go_simp
                go_wp2_with (go_at_call 12; refine (H3.out _ y2 (fun k => absurd k (by simp))).mono ?_; rintro e x3 ⟨rfl, p3⟩; have y3 := y2.trans (p3.mono y2.size))
                refine hK.out _ _ ?_ (fun hS => ?_)
                · exact hS.below p3
                clear hK K
                refine wpAnyH_ready (rs := [12]) (by as_aux_lemma => kernel_rfl) (by simp) ?_
                refine AllReadyH.cons rfl (fun K hK => ?_) AllReadyH.nil
                go_simp
                go_wp2_with (go_at_call 12; refine (H1.out _ y3 (((hg7.below p1 (Nat.le_refl _)).below p2 (Nat.le_refl _)).below p3 (Nat.le_refl _))).mono ?_; rintro e x4 ⟨rfl, p4⟩; have y4 := y3.trans (p4.mono y3.size))
                refine hK.out _ _ ?_ (fun hS => ?_)
                · exact hS.below p4
                clear hK K
                refine wpAnyH_take (i := 13) (v := ?_) rfl (by as_aux_lemma => kernel_rfl) (by as_aux_lemma => kernel_rfl) (by as_aux_lemma => kernel_rfl) (fun _ _ _ h => h) (Or.inl ⟨by kernel_rfl, ?_⟩) hS ?_
                rotate_left
                · intro w hSw; have c0 := hSw.cell0; have c1 := hSw.cell1; have c2 := hSw.cell2; simp only at c0 c1 c2; go_simp
                  first | done | with_reducible rfl
                skip
                refine wpAnyH_take (i := 14) (v := ?_) rfl (by as_aux_lemma => kernel_rfl) (by as_aux_lemma => kernel_rfl) (by as_aux_lemma => kernel_rfl) (fun _ _ _ h => h) (Or.inl ⟨by kernel_rfl, ?_⟩) hS ?_
                rotate_left
                · intro w hSw; have c0 := hSw.cell0; have c1 := hSw.cell1; have c2 := hSw.cell2; simp only at c0 c1 c2; go_simp
                  first | done | with_reducible rfl
                skip
                refine wpAnyH_take (i := 15) (v := ?_) rfl (by as_aux_lemma => kernel_rfl) (by as_aux_lemma => kernel_rfl) (by as_aux_lemma => kernel_rfl) (fun _ _ _ h => h) (Or.inl ⟨by kernel_rfl, ?_⟩) hS ?_
                rotate_left
                · intro w hSw; have c0 := hSw.cell0; have c1 := hSw.cell1; have c2 := hSw.cell2; simp only at c0 c1 c2; go_simp
                  first | done | with_reducible rfl
                skip
                refine wpAnyH_ready (rs := [16]) (by as_aux_lemma => kernel_rfl) (by simp) ?_
                refine AllReadyH.cons rfl (fun K hK => ?_) AllReadyH.nil
                go_simp
                go_wp2_with (go_at_call 7; refine (HW.out _ y4).mono ?_; rintro e x5 ⟨rfl, p5⟩; have y5 := y4.trans (p5.mono y4.size))
                refine hK.out _ _ ?_ (fun hS => ?_)
                · exact hS.below p5
                clear hK K
                refine wpAnyH_take (i := 17) (v := ?_) rfl (by as_aux_lemma => kernel_rfl) (by as_aux_lemma => kernel_rfl) (by as_aux_lemma => kernel_rfl) (fun _ _ _ h => h) (Or.inl ⟨by kernel_rfl, ?_⟩) hS ?_
                rotate_left
                · intro w hSw; have c0 := hSw.cell0; have c1 := hSw.cell1; have c2 := hSw.cell2; simp only at c0 c1 c2; go_simp
                  first | done | with_reducible rfl
                skip
                refine wpAnyH_take (i := 18) (v := ?_) rfl (by as_aux_lemma => kernel_rfl) (by as_aux_lemma => kernel_rfl) (by as_aux_lemma => kernel_rfl) (fun _ _ _ h => h) (Or.inl ⟨by kernel_rfl, ?_⟩) hS ?_
                rotate_left
                · intro w hSw; have c0 := hSw.cell0; have c1 := hSw.cell1; have c2 := hSw.cell2; simp only at c0 c1 c2; go_simp
                  first | done | with_reducible rfl
                skip
                refine wpAnyH_done (by kernel_rfl) ?_ _
                go_wp2
                go_ret
                exact ⟨rfl, y5⟩
              · have H1 : Hid (∀ u, Below w.heap.size w u → PairsAt u ra F → Calls Tryd.prog 12 #[.agg #[.string n, .int .u8 (o : Int), .string v], .slice ra F.length rc] u fun e w' => e = .returned (.bool false) ∧ Below u.heap.size u w') := Lib.hid (fun u hu hp => (HO.out ra rc F F.length rfl u hu hp (by omega) hvF).mono fun e w' ⟨ht, hb⟩ => ⟨tells_no ht (fun k => hq (HMW.out.1 k)), hb⟩)
                have H2 : Hid (∀ u, Below w.heap.size w u → PairsAt u ea Es → Calls Tryd.prog 12 #[.agg #[.string n, .int .u8 (o : Int), .string v], .slice ea Es.length ec] u fun e w' => e = .returned (.bool false) ∧ Below u.heap.size u w') := Lib.hid (fun u hu hp => (HO.out ea ec Es Es.length rfl u hu hp (by omega) hEv).mono fun e w' ⟨ht, hb⟩ => ⟨tells_no ht (fun k => hq (HME.out.1 k)), hb⟩)
                have H3 : Hid (∀ u, Below w.heap.size w u → PairsAt u none [] → Calls Tryd.prog 12 #[.agg #[.string n, .int .u8 (o : Int), .string v], .slice none 0 0] u fun e w' => e = .returned (.bool false) ∧ Below u.heap.size u w') := Lib.hid (fun u hu hp => (HO.out none 0 [] 0 rfl u hu hp (Nat.zero_le _) (fun p hp => by cases hp)).mono fun e w' ⟨ht, hb⟩ => ⟨tells_no ht hq, hb⟩)
                clear hq HO HMW HME hvF hEv
                have hg7 : PairsAt w7.drew ra F := hatF7
                have he7 : PairsAt w7.drew ea Es := hatE
                refine wp_region_any (by kernel_rfl) ?_
                change wpAny _ _ _ _ _ _ _ (World.drew _)
                have hS : (fun w' : World => MtBlk w' w.heap.size (n, o, v)) w7.drew := hm7
                refine wpAny_of_held (S := fun w' => MtBlk w' w.heap.size (n, o, v)) _ _ _ _ ?_
                refine wpAnyH_take (i := 0) (v := ?_) rfl (by as_aux_lemma => kernel_rfl) (by as_aux_lemma => kernel_rfl) (by as_aux_lemma => kernel_rfl) (fun _ _ _ h => h) (Or.inl ⟨by kernel_rfl, ?_⟩) hS ?_
                rotate_left
                · intro w hSw; have c0 := hSw.cell0; have c1 := hSw.cell1; have c2 := hSw.cell2; simp only at c0 c1 c2; go_simp
                  first | done | with_reducible rfl
                skip
                refine wpAnyH_take (i := 1) (v := ?_) rfl (by as_aux_lemma => kernel_rfl) (by as_aux_lemma => kernel_rfl) (by as_aux_lemma => kernel_rfl) (fun _ _ _ h => h) (Or.inl ⟨by kernel_rfl, ?_⟩) hS ?_
                rotate_left
                · intro w hSw; have c0 := hSw.cell0; have c1 := hSw.cell1; have c2 := hSw.cell2; simp only at c0 c1 c2; go_simp
                  first | done | with_reducible rfl
                skip
                refine wpAnyH_take (i := 3) (v := ?_) rfl (by as_aux_lemma => kernel_rfl) (by as_aux_lemma => kernel_rfl) (by as_aux_lemma => kernel_rfl) (fun _ _ _ h => h) (Or.inl ⟨by kernel_rfl, ?_⟩) hS ?_
                rotate_left
                · intro w hSw; have c0 := hSw.cell0; have c1 := hSw.cell1; have c2 := hSw.cell2; simp only at c0 c1 c2; go_simp
                  first | done | with_reducible rfl
                skip
                refine wpAnyH_take (i := 4) (v := ?_) rfl (by as_aux_lemma => kernel_rfl) (by as_aux_lemma => kernel_rfl) (by as_aux_lemma => kernel_rfl) (fun _ _ _ h => h) (Or.inl ⟨by kernel_rfl, ?_⟩) hS ?_
                rotate_left
                · intro w hSw; have c0 := hSw.cell0; have c1 := hSw.cell1; have c2 := hSw.cell2; simp only at c0 c1 c2; go_simp
                  first | done | with_reducible rfl
                skip
                refine wpAnyH_ready (rs := [2]) (by as_aux_lemma => kernel_rfl) (by simp) ?_
                refine AllReadyH.cons rfl (fun K hK => ?_) AllReadyH.nil
                go_simp
                go_wp2_with (have y0 := bw7.drew; go_at_call 12; refine (H1.out _ y0 hg7).mono ?_; rintro e x1 ⟨rfl, p1⟩; have y1 := y0.trans (p1.mono y0.size))
                refine hK.out _ _ ?_ (fun hS => ?_)
                · exact hS.below p1
                clear hK K
                refine wpAnyH_ready (rs := [5]) (by as_aux_lemma => kernel_rfl) (by simp) ?_
                refine AllReadyH.cons rfl (fun K hK => ?_) AllReadyH.nil
                go_simp
                go_wp2_with (go_at_call 12; refine (H2.out _ y1 (he7.below p1 (Nat.le_refl _))).mono ?_; rintro e x2 ⟨rfl, p2⟩; have y2 := y1.trans (p2.mono y1.size))
                refine hK.out _ _ ?_ (fun hS => ?_)
                · exact hS.below p2
                clear hK K
                refine wpAnyH_take (i := 6) (v := ?_) rfl (by as_aux_lemma => kernel_rfl) (by as_aux_lemma => kernel_rfl) (by as_aux_lemma => kernel_rfl) (fun _ _ _ h => h) (Or.inl ⟨by kernel_rfl, ?_⟩) hS ?_
                rotate_left
                · intro w hSw; have c0 := hSw.cell0; have c1 := hSw.cell1; have c2 := hSw.cell2; simp only at c0 c1 c2; go_simp
                  first | done | with_reducible rfl
                skip
                refine wpAnyH_take (i := 7) (v := ?_) rfl (by as_aux_lemma => kernel_rfl) (by as_aux_lemma => kernel_rfl) (by as_aux_lemma => kernel_rfl) (fun _ _ _ h => h) (Or.inl ⟨by kernel_rfl, ?_⟩) hS ?_
                rotate_left
                · intro w hSw; have c0 := hSw.cell0; have c1 := hSw.cell1; have c2 := hSw.cell2; simp only at c0 c1 c2; go_simp
                  first | done | with_reducible rfl
                skip
                refine wpAnyH_take (i := 8) (v := ?_) rfl (by as_aux_lemma => kernel_rfl) (by as_aux_lemma => kernel_rfl) (by as_aux_lemma => kernel_rfl) (fun _ _ _ h => h) (Or.inl ⟨by kernel_rfl, ?_⟩) hS ?_
                rotate_left
                · intro w hSw; have c0 := hSw.cell0; have c1 := hSw.cell1; have c2 := hSw.cell2; simp only at c0 c1 c2; go_simp
                  first | done | with_reducible rfl
                skip
                refine wpAnyH_take (i := 10) (v := ?_) rfl (by as_aux_lemma => kernel_rfl) (by as_aux_lemma => kernel_rfl) (by as_aux_lemma => kernel_rfl) (fun _ _ _ h => h) (Or.inl ⟨by kernel_rfl, ?_⟩) hS ?_
                rotate_left
                · intro w hSw; have c0 := hSw.cell0; have c1 := hSw.cell1; have c2 := hSw.cell2; simp only at c0 c1 c2; go_simp
                  first | done | with_reducible rfl
                skip
                refine wpAnyH_take (i := 11) (v := ?_) rfl (by as_aux_lemma => kernel_rfl) (by as_aux_lemma => kernel_rfl) (by as_aux_lemma => kernel_rfl) (fun _ _ _ h => h) (Or.inl ⟨by kernel_rfl, ?_⟩) hS ?_
                rotate_left
                · intro w hSw; have c0 := hSw.cell0; have c1 := hSw.cell1; have c2 := hSw.cell2; simp only at c0 c1 c2; go_simp
                  first | done | with_reducible rfl
                skip
                refine wpAnyH_ready (rs := [9]) (by as_aux_lemma => kernel_rfl) (by simp) ?_
                refine AllReadyH.cons rfl (fun K hK => ?_) AllReadyH.nil
                go_simp
                go_wp2_with (go_at_call 12; refine (H3.out _ y2 (fun k => absurd k (by simp))).mono ?_; rintro e x3 ⟨rfl, p3⟩; have y3 := y2.trans (p3.mono y2.size))
                refine hK.out _ _ ?_ (fun hS => ?_)
                · exact hS.below p3
                clear hK K
                refine wpAnyH_ready (rs := [12]) (by as_aux_lemma => kernel_rfl) (by simp) ?_
                refine AllReadyH.cons rfl (fun K hK => ?_) AllReadyH.nil
                go_simp
                go_wp2_with (go_at_call 12; refine (H1.out _ y3 (((hg7.below p1 (Nat.le_refl _)).below p2 (Nat.le_refl _)).below p3 (Nat.le_refl _))).mono ?_; rintro e x4 ⟨rfl, p4⟩; have y4 := y3.trans (p4.mono y3.size))
                refine hK.out _ _ ?_ (fun hS => ?_)
                · exact hS.below p4
                clear hK K
                refine wpAnyH_take (i := 13) (v := ?_) rfl (by as_aux_lemma => kernel_rfl) (by as_aux_lemma => kernel_rfl) (by as_aux_lemma => kernel_rfl) (fun _ _ _ h => h) (Or.inl ⟨by kernel_rfl, ?_⟩) hS ?_
                rotate_left
                · intro w hSw; have c0 := hSw.cell0; have c1 := hSw.cell1; have c2 := hSw.cell2; simp only at c0 c1 c2; go_simp
                  first | done | with_reducible rfl
                skip
                refine wpAnyH_take (i := 14) (v := ?_) rfl (by as_aux_lemma => kernel_rfl) (by as_aux_lemma => kernel_rfl) (by as_aux_lemma => kernel_rfl) (fun _ _ _ h => h) (Or.inl ⟨by kernel_rfl, ?_⟩) hS ?_
                rotate_left
                · intro w hSw; have c0 := hSw.cell0; have c1 := hSw.cell1; have c2 := hSw.cell2; simp only at c0 c1 c2; go_simp
                  first | done | with_reducible rfl
                skip
                refine wpAnyH_take (i := 15) (v := ?_) rfl (by as_aux_lemma => kernel_rfl) (by as_aux_lemma => kernel_rfl) (by as_aux_lemma => kernel_rfl) (fun _ _ _ h => h) (Or.inl ⟨by kernel_rfl, ?_⟩) hS ?_
                rotate_left
                · intro w hSw; have c0 := hSw.cell0; have c1 := hSw.cell1; have c2 := hSw.cell2; simp only at c0 c1 c2; go_simp
                  first | done | with_reducible rfl
                skip
                refine wpAnyH_ready (rs := [16]) (by as_aux_lemma => kernel_rfl) (by simp) ?_
                refine AllReadyH.cons rfl (fun K hK => ?_) AllReadyH.nil
                go_simp
                go_wp2_with (go_at_call 7; refine (HW.out _ y4).mono ?_; rintro e x5 ⟨rfl, p5⟩; have y5 := y4.trans (p5.mono y4.size))
                refine hK.out _ _ ?_ (fun hS => ?_)
                · exact hS.below p5
                clear hK K
                refine wpAnyH_take (i := 17) (v := ?_) rfl (by as_aux_lemma => kernel_rfl) (by as_aux_lemma => kernel_rfl) (by as_aux_lemma => kernel_rfl) (fun _ _ _ h => h) (Or.inl ⟨by kernel_rfl, ?_⟩) hS ?_
                rotate_left
                · intro w hSw; have c0 := hSw.cell0; have c1 := hSw.cell1; have c2 := hSw.cell2; simp only at c0 c1 c2; go_simp
                  first | done | with_reducible rfl
                skip
                refine wpAnyH_take (i := 18) (v := ?_) rfl (by as_aux_lemma => kernel_rfl) (by as_aux_lemma => kernel_rfl) (by as_aux_lemma => kernel_rfl) (fun _ _ _ h => h) (Or.inl ⟨by kernel_rfl, ?_⟩) hS ?_
                rotate_left
                · intro w hSw; have c0 := hSw.cell0; have c1 := hSw.cell1; have c2 := hSw.cell2; simp only at c0 c1 c2; go_simp
                  first | done | with_reducible rfl
                skip
                refine wpAnyH_done (by kernel_rfl) ?_ _
                go_wp2
                go_ret
                exact ⟨rfl, y5⟩
          · go_simp
            go_wp2_with fail
            refine hK.out _ _ ?_ (fun hS => ?_)
            · exact hS.below ((Below.refl _ _).alloc (Nat.le_refl _) _)
            clear hK K
            have bA : Below wr.heap.size wr (World.alloc wr.drew (.cells #[.string n, .string ⟨#[]⟩] 38)) := (Below.refl wr.heap.size wr).drew.alloc (Nat.le_refl _) _
            have hlit : (World.alloc wr.drew (.cells #[.string n, .string ⟨#[]⟩] 38)).heap[wr.heap.size]? = some (.cells #[.string n, .string ⟨#[]⟩] 38 (0, 0)) := heap_new wr.drew _
            refine wpAnyH_ready (rs := [0]) (by as_aux_lemma => kernel_rfl) (by simp) ?_
            refine AllReadyH.cons rfl (fun K hK => ?_) AllReadyH.nil
            go_simp
            go_wp2_with fail
            refine hK.out _ _ ?_ (fun hS => ?_)
            · exact hS.below ((Below.refl _ _).alloc (Nat.le_refl _) _)
            clear hK K
            have bB := bA.alloc bA.size (.cells #[] 38)
            have ownB : OwnR (World.alloc (World.alloc wr.drew (.cells #[.string n, .string ⟨#[]⟩] 38)) (.cells #[] 38)) wr.heap.size (.slice (some ⟨wr.heap.size + 1, 0, none⟩) 0 0) [] := by
              have k := World.ownsRow_lit (base := wr.heap.size) (e := 38) (size := 2) (World.alloc wr.drew (.cells #[.string n, .string ⟨#[]⟩] 38)) #[] 0 (by simp) (by decide) rfl
              rw [World.size_alloc] at k
              exact k
            have hlit1 : (World.alloc (World.alloc wr.drew (.cells #[.string n, .string ⟨#[]⟩] 38)) (.cells #[] 38)).heap[wr.heap.size]? = some (.cells #[.string n, .string ⟨#[]⟩] 38 (0, 0)) := (Below.heap_alloc (World.alloc wr.drew (.cells #[.string n, .string ⟨#[]⟩] 38)) _ _ (by simp)).trans hlit
            refine wpAnyH_ready (rs := [2]) (by as_aux_lemma => kernel_rfl) (by simp) ?_
            refine AllReadyH.cons rfl (fun K hK => ?_) AllReadyH.nil
            refine step_append_prs rfl _ _ rfl wr.heap.size _ [] rfl ownB ra rc F rfl (hatF.below bB (Nat.le_refl _)) hnilF (by simp; omega) bB.size ?_
            intro v2 w2 own2 g2
            refine hK.out _ _ ?_ (fun hS => ?_)
            · exact (g2.block w.heap.size (by simp; omega) (fun e => by have := (World.ownsRow.lt ownB _ e.symm).1; omega)).trans hS
            clear hK K
            rw [List.nil_append] at own2
            have b2 : Below wr.heap.size wr w2 := bB.grown g2 bB.size (fun j hj => (World.ownsRow.lt ownB j hj).1)
            have hlit2 := (g2.block wr.heap.size (Array.getElem?_eq_some_iff.1 hlit1).1 (fun e => by have e2 : wr.heap.size = wr.heap.size + 1 := Option.some.inj e; omega)).trans hlit1
            clear ownB g2 bA bB hlit hlit1
            refine wpAnyH_ready (rs := [7]) (by as_aux_lemma => kernel_rfl) (by simp) ?_
            refine AllReadyH.cons rfl (fun K hK => ?_) AllReadyH.nil
            refine step_append_prs rfl _ _ rfl wr.heap.size _ F rfl own2 (some ⟨wr.heap.size, 0, none⟩) 1 [(n, ⟨#[]⟩)] rfl (pairs_lit hlit2) (fun e => by cases e) (by simp; omega) b2.size ?_
            intro v7 w7 own7 g7
            refine hK.out _ _ ?_ (fun hS => ?_)
            · exact (g7.block w.heap.size (Nat.lt_of_lt_of_le hm' b2.size) (fun e => by have := (World.ownsRow.lt own2 _ e.symm).1; omega)).trans hS
            clear hK K
            have bb : Below wr.heap.size wr w7 := b2.grown g7 b2.size (fun j hj => (World.ownsRow.lt own2 j hj).1)
            clear own2 b2 g7 hlit2
            have bw7 : Below w.heap.size w w7 := hb.trans (bb.mono hbs)
            obtain ⟨Es, hEs⟩ : ∃ Es, Es = F ++ [(n, (⟨#[]⟩ : ByteArray))] := ⟨_, rfl⟩
            rw [← hEs] at own7 HME
            have hEl : Es.length ≤ 41 := by rw [hEs]; simp; omega
            have hEv : ∀ p ∈ Es, p.2.size ≤ 9223372036854775807 := fun p hp => by
              rw [hEs] at hp
              rcases List.mem_append.1 hp with k | k
              · exact hvF p k
              · obtain rfl := List.mem_singleton.1 k
                exact Nat.zero_le _
            obtain ⟨ea, ec, rfl, hatE, -⟩ := own7.prs
            clear hEs
            have hatF7 := hatF.below bb (Nat.le_refl _)
            have hm7 := hm.below bb
            clear own7 hatF hm
            refine wpAnyH_take (i := 8) (v := ?_) rfl (by as_aux_lemma => kernel_rfl) (by as_aux_lemma => kernel_rfl) (by as_aux_lemma => kernel_rfl) (fun _ _ _ h => h) (Or.inl ⟨by kernel_rfl, ?_⟩) hS ?_
            rotate_left
            · intro w hSw; have c0 := hSw.cell0; simp only at c0; go_simp
              first | done | with_reducible rfl
            skip
            refine wpAnyH_done (by kernel_rfl) ?_ _
            go_wp2_with fail
            by_cases hq : mAsk [] (n, o, v)
            · have H1 : Hid (∀ u, Below w.heap.size w u → PairsAt u ra F → Calls Tryd.prog 12 #[.agg #[.string n, .int .u8 (o : Int), .string v], .slice ra F.length rc] u fun e w' => e = .returned (.bool true) ∧ Below u.heap.size u w') := Lib.hid (fun u hu hp => (HO.out ra rc F F.length rfl u hu hp (by omega) hvF).mono fun e w' ⟨ht, hb⟩ => ⟨tells_yes ht (HMW.out.2 hq), hb⟩)
              have H2 : Hid (∀ u, Below w.heap.size w u → PairsAt u ea Es → Calls Tryd.prog 12 #[.agg #[.string n, .int .u8 (o : Int), .string v], .slice ea Es.length ec] u fun e w' => e = .returned (.bool true) ∧ Below u.heap.size u w') := Lib.hid (fun u hu hp => (HO.out ea ec Es Es.length rfl u hu hp (by omega) hEv).mono fun e w' ⟨ht, hb⟩ => ⟨tells_yes ht (HME.out.2 hq), hb⟩)
              have H3 : Hid (∀ u, Below w.heap.size w u → PairsAt u none [] → Calls Tryd.prog 12 #[.agg #[.string n, .int .u8 (o : Int), .string v], .slice none 0 0] u fun e w' => e = .returned (.bool true) ∧ Below u.heap.size u w') := Lib.hid (fun u hu hp => (HO.out none 0 [] 0 rfl u hu hp (Nat.zero_le _) (fun p hp => by cases hp)).mono fun e w' ⟨ht, hb⟩ => ⟨tells_yes ht hq, hb⟩)
              clear hq HO HMW HME hvF hEv
              have hg7 : PairsAt w7.drew ra F := hatF7
              have he7 : PairsAt w7.drew ea Es := hatE
              refine wp_region_any (by kernel_rfl) ?_
              change wpAny _ _ _ _ _ _ _ (World.drew _)
              have hS : (fun w' : World => MtBlk w' w.heap.size (n, o, v)) w7.drew := hm7
              refine wpAny_of_held (S := fun w' => MtBlk w' w.heap.size (n, o, v)) _ _ _ _ ?_
              refine wpAnyH_take (i := 0) (v := ?_) rfl (by as_aux_lemma => kernel_rfl) (by as_aux_lemma => kernel_rfl) (by as_aux_lemma => kernel_rfl) (fun _ _ _ h => h) (Or.inl ⟨by kernel_rfl, ?_⟩) hS ?_
              rotate_left
              · intro w hSw; have c0 := hSw.cell0; have c1 := hSw.cell1; have c2 := hSw.cell2; simp only at c0 c1 c2; go_simp
                first | done | with_reducible rfl
              skip
              refine wpAnyH_take (i := 1) (v := ?_) rfl (by as_aux_lemma => kernel_rfl) (by as_aux_lemma => kernel_rfl) (by as_aux_lemma => kernel_rfl) (fun _ _ _ h => h) (Or.inl ⟨by kernel_rfl, ?_⟩) hS ?_
              rotate_left
              · intro w hSw; have c0 := hSw.cell0; have c1 := hSw.cell1; have c2 := hSw.cell2; simp only at c0 c1 c2; go_simp
                first | done | with_reducible rfl
              skip
              refine wpAnyH_take (i := 3) (v := ?_) rfl (by as_aux_lemma => kernel_rfl) (by as_aux_lemma => kernel_rfl) (by as_aux_lemma => kernel_rfl) (fun _ _ _ h => h) (Or.inl ⟨by kernel_rfl, ?_⟩) hS ?_
              rotate_left
              · intro w hSw; have c0 := hSw.cell0; have c1 := hSw.cell1; have c2 := hSw.cell2; simp only at c0 c1 c2; go_simp
                first | done | with_reducible rfl
              skip
              refine wpAnyH_take (i := 4) (v := ?_) rfl (by as_aux_lemma => kernel_rfl) (by as_aux_lemma => kernel_rfl) (by as_aux_lemma => kernel_rfl) (fun _ _ _ h => h) (Or.inl ⟨by kernel_rfl, ?_⟩) hS ?_
              rotate_left
              · intro w hSw; have c0 := hSw.cell0; have c1 := hSw.cell1; have c2 := hSw.cell2; simp only at c0 c1 c2; go_simp
                first | done | with_reducible rfl
              skip
              refine wpAnyH_ready (rs := [2]) (by as_aux_lemma => kernel_rfl) (by simp) ?_
              refine AllReadyH.cons rfl (fun K hK => ?_) AllReadyH.nil
              go_simp
              go_wp2_with (have y0 := bw7.drew; go_at_call 12; refine (H1.out _ y0 hg7).mono ?_; rintro e x1 ⟨rfl, p1⟩; have y1 := y0.trans (p1.mono y0.size))
              refine hK.out _ _ ?_ (fun hS => ?_)
              · exact hS.below p1
              clear hK K
              refine wpAnyH_ready (rs := [5]) (by as_aux_lemma => kernel_rfl) (by simp) ?_
              refine AllReadyH.cons rfl (fun K hK => ?_) AllReadyH.nil
              go_simp
              go_wp2_with (go_at_call 12; refine (H2.out _ y1 (he7.below p1 (Nat.le_refl _))).mono ?_; rintro e x2 ⟨rfl, p2⟩; have y2 := y1.trans (p2.mono y1.size))
              refine hK.out _ _ ?_ (fun hS => ?_)
              · exact hS.below p2
              clear hK K
              refine wpAnyH_take (i := 6) (v := ?_) rfl (by as_aux_lemma => kernel_rfl) (by as_aux_lemma => kernel_rfl) (by as_aux_lemma => kernel_rfl) (fun _ _ _ h => h) (Or.inl ⟨by kernel_rfl, ?_⟩) hS ?_
              rotate_left
              · intro w hSw; have c0 := hSw.cell0; have c1 := hSw.cell1; have c2 := hSw.cell2; simp only at c0 c1 c2; go_simp
                first | done | with_reducible rfl
              skip
              refine wpAnyH_take (i := 7) (v := ?_) rfl (by as_aux_lemma => kernel_rfl) (by as_aux_lemma => kernel_rfl) (by as_aux_lemma => kernel_rfl) (fun _ _ _ h => h) (Or.inl ⟨by kernel_rfl, ?_⟩) hS ?_
              rotate_left
              · intro w hSw; have c0 := hSw.cell0; have c1 := hSw.cell1; have c2 := hSw.cell2; simp only at c0 c1 c2; go_simp
                first | done | with_reducible rfl
              skip
              refine wpAnyH_take (i := 8) (v := ?_) rfl (by as_aux_lemma => kernel_rfl) (by as_aux_lemma => kernel_rfl) (by as_aux_lemma => kernel_rfl) (fun _ _ _ h => h) (Or.inl ⟨by kernel_rfl, ?_⟩) hS ?_
              rotate_left
              · intro w hSw; have c0 := hSw.cell0; have c1 := hSw.cell1; have c2 := hSw.cell2; simp only at c0 c1 c2; go_simp
                first | done | with_reducible rfl
              skip
              refine wpAnyH_take (i := 10) (v := ?_) rfl (by as_aux_lemma => kernel_rfl) (by as_aux_lemma => kernel_rfl) (by as_aux_lemma => kernel_rfl) (fun _ _ _ h => h) (Or.inl ⟨by kernel_rfl, ?_⟩) hS ?_
              rotate_left
              · intro w hSw; have c0 := hSw.cell0; have c1 := hSw.cell1; have c2 := hSw.cell2; simp only at c0 c1 c2; go_simp
                first | done | with_reducible rfl
              skip
              refine wpAnyH_take (i := 11) (v := ?_) rfl (by as_aux_lemma => kernel_rfl) (by as_aux_lemma => kernel_rfl) (by as_aux_lemma => kernel_rfl) (fun _ _ _ h => h) (Or.inl ⟨by kernel_rfl, ?_⟩) hS ?_
              rotate_left
              · intro w hSw; have c0 := hSw.cell0; have c1 := hSw.cell1; have c2 := hSw.cell2; simp only at c0 c1 c2; go_simp
                first | done | with_reducible rfl
              skip
              refine wpAnyH_ready (rs := [9]) (by as_aux_lemma => kernel_rfl) (by simp) ?_
              refine AllReadyH.cons rfl (fun K hK => ?_) AllReadyH.nil
              go_simp
              go_wp2_with (go_at_call 12; refine (H3.out _ y2 (fun k => absurd k (by simp))).mono ?_; rintro e x3 ⟨rfl, p3⟩; have y3 := y2.trans (p3.mono y2.size))
              refine hK.out _ _ ?_ (fun hS => ?_)
              · exact hS.below p3
              clear hK K
              refine wpAnyH_ready (rs := [12]) (by as_aux_lemma => kernel_rfl) (by simp) ?_
              refine AllReadyH.cons rfl (fun K hK => ?_) AllReadyH.nil
              go_simp
              go_wp2_with (go_at_call 12; refine (H1.out _ y3 (((hg7.below p1 (Nat.le_refl _)).below p2 (Nat.le_refl _)).below p3 (Nat.le_refl _))).mono ?_; rintro e x4 ⟨rfl, p4⟩; have y4 := y3.trans (p4.mono y3.size))
              refine hK.out _ _ ?_ (fun hS => ?_)
              · exact hS.below p4
              clear hK K
              refine wpAnyH_take (i := 13) (v := ?_) rfl (by as_aux_lemma => kernel_rfl) (by as_aux_lemma => kernel_rfl) (by as_aux_lemma => kernel_rfl) (fun _ _ _ h => h) (Or.inl ⟨by kernel_rfl, ?_⟩) hS ?_
              rotate_left
              · intro w hSw; have c0 := hSw.cell0; have c1 := hSw.cell1; have c2 := hSw.cell2; simp only at c0 c1 c2; go_simp
                first | done | with_reducible rfl
              skip
              refine wpAnyH_take (i := 14) (v := ?_) rfl (by as_aux_lemma => kernel_rfl) (by as_aux_lemma => kernel_rfl) (by as_aux_lemma => kernel_rfl) (fun _ _ _ h => h) (Or.inl ⟨by kernel_rfl, ?_⟩) hS ?_
              rotate_left
              · intro w hSw; have c0 := hSw.cell0; have c1 := hSw.cell1; have c2 := hSw.cell2; simp only at c0 c1 c2; go_simp
                first | done | with_reducible rfl
              skip
              refine wpAnyH_take (i := 15) (v := ?_) rfl (by as_aux_lemma => kernel_rfl) (by as_aux_lemma => kernel_rfl) (by as_aux_lemma => kernel_rfl) (fun _ _ _ h => h) (Or.inl ⟨by kernel_rfl, ?_⟩) hS ?_
              rotate_left
              · intro w hSw; have c0 := hSw.cell0; have c1 := hSw.cell1; have c2 := hSw.cell2; simp only at c0 c1 c2; go_simp
                first | done | with_reducible rfl
              skip
              refine wpAnyH_ready (rs := [16]) (by as_aux_lemma => kernel_rfl) (by simp) ?_
              refine AllReadyH.cons rfl (fun K hK => ?_) AllReadyH.nil
              go_simp
              go_wp2_with (go_at_call 7; refine (HW.out _ y4).mono ?_; rintro e x5 ⟨rfl, p5⟩; have y5 := y4.trans (p5.mono y4.size))
              refine hK.out _ _ ?_ (fun hS => ?_)
              · exact hS.below p5
              clear hK K
              refine wpAnyH_take (i := 17) (v := ?_) rfl (by as_aux_lemma => kernel_rfl) (by as_aux_lemma => kernel_rfl) (by as_aux_lemma => kernel_rfl) (fun _ _ _ h => h) (Or.inl ⟨by kernel_rfl, ?_⟩) hS ?_
              rotate_left
              · intro w hSw; have c0 := hSw.cell0; have c1 := hSw.cell1; have c2 := hSw.cell2; simp only at c0 c1 c2; go_simp
                first | done | with_reducible rfl
              skip
              refine wpAnyH_take (i := 18) (v := ?_) rfl (by as_aux_lemma => kernel_rfl) (by as_aux_lemma => kernel_rfl) (by as_aux_lemma => kernel_rfl) (fun _ _ _ h => h) (Or.inl ⟨by kernel_rfl, ?_⟩) hS ?_
              rotate_left
              · intro w hSw; have c0 := hSw.cell0; have c1 := hSw.cell1; have c2 := hSw.cell2; simp only at c0 c1 c2; go_simp
                first | done | with_reducible rfl
              skip
              refine wpAnyH_done (by kernel_rfl) ?_ _
              go_wp2
              go_ret
              exact ⟨rfl, y5⟩
            · have H1 : Hid (∀ u, Below w.heap.size w u → PairsAt u ra F → Calls Tryd.prog 12 #[.agg #[.string n, .int .u8 (o : Int), .string v], .slice ra F.length rc] u fun e w' => e = .returned (.bool false) ∧ Below u.heap.size u w') := Lib.hid (fun u hu hp => (HO.out ra rc F F.length rfl u hu hp (by omega) hvF).mono fun e w' ⟨ht, hb⟩ => ⟨tells_no ht (fun k => hq (HMW.out.1 k)), hb⟩)
              have H2 : Hid (∀ u, Below w.heap.size w u → PairsAt u ea Es → Calls Tryd.prog 12 #[.agg #[.string n, .int .u8 (o : Int), .string v], .slice ea Es.length ec] u fun e w' => e = .returned (.bool false) ∧ Below u.heap.size u w') := Lib.hid (fun u hu hp => (HO.out ea ec Es Es.length rfl u hu hp (by omega) hEv).mono fun e w' ⟨ht, hb⟩ => ⟨tells_no ht (fun k => hq (HME.out.1 k)), hb⟩)
              have H3 : Hid (∀ u, Below w.heap.size w u → PairsAt u none [] → Calls Tryd.prog 12 #[.agg #[.string n, .int .u8 (o : Int), .string v], .slice none 0 0] u fun e w' => e = .returned (.bool false) ∧ Below u.heap.size u w') := Lib.hid (fun u hu hp => (HO.out none 0 [] 0 rfl u hu hp (Nat.zero_le _) (fun p hp => by cases hp)).mono fun e w' ⟨ht, hb⟩ => ⟨tells_no ht hq, hb⟩)
              clear hq HO HMW HME hvF hEv
              have hg7 : PairsAt w7.drew ra F := hatF7
              have he7 : PairsAt w7.drew ea Es := hatE
              refine wp_region_any (by kernel_rfl) ?_
              change wpAny _ _ _ _ _ _ _ (World.drew _)
              have hS : (fun w' : World => MtBlk w' w.heap.size (n, o, v)) w7.drew := hm7
              refine wpAny_of_held (S := fun w' => MtBlk w' w.heap.size (n, o, v)) _ _ _ _ ?_
              refine wpAnyH_take (i := 0) (v := ?_) rfl (by as_aux_lemma => kernel_rfl) (by as_aux_lemma => kernel_rfl) (by as_aux_lemma => kernel_rfl) (fun _ _ _ h => h) (Or.inl ⟨by kernel_rfl, ?_⟩) hS ?_
              rotate_left
              · intro w hSw; have c0 := hSw.cell0; have c1 := hSw.cell1; have c2 := hSw.cell2; simp only at c0 c1 c2; go_simp
                first | done | with_reducible rfl
              skip
              refine wpAnyH_take (i := 1) (v := ?_) rfl (by as_aux_lemma => kernel_rfl) (by as_aux_lemma => kernel_rfl) (by as_aux_lemma => kernel_rfl) (fun _ _ _ h => h) (Or.inl ⟨by kernel_rfl, ?_⟩) hS ?_
              rotate_left
              · intro w hSw; have c0 := hSw.cell0; have c1 := hSw.cell1; have c2 := hSw.cell2; simp only at c0 c1 c2; go_simp
                first | done | with_reducible rfl
              skip
              refine wpAnyH_take (i := 3) (v := ?_) rfl (by as_aux_lemma => kernel_rfl) (by as_aux_lemma => kernel_rfl) (by as_aux_lemma => kernel_rfl) (fun _ _ _ h => h) (Or.inl ⟨by kernel_rfl, ?_⟩) hS ?_
              rotate_left
              · intro w hSw; have c0 := hSw.cell0; have c1 := hSw.cell1; have c2 := hSw.cell2; simp only at c0 c1 c2; go_simp
                first | done | with_reducible rfl
              skip
              refine wpAnyH_take (i := 4) (v := ?_) rfl (by as_aux_lemma => kernel_rfl) (by as_aux_lemma => kernel_rfl) (by as_aux_lemma => kernel_rfl) (fun _ _ _ h => h) (Or.inl ⟨by kernel_rfl, ?_⟩) hS ?_
              rotate_left
              · intro w hSw; have c0 := hSw.cell0; have c1 := hSw.cell1; have c2 := hSw.cell2; simp only at c0 c1 c2; go_simp
                first | done | with_reducible rfl
              skip
              refine wpAnyH_ready (rs := [2]) (by as_aux_lemma => kernel_rfl) (by simp) ?_
              refine AllReadyH.cons rfl (fun K hK => ?_) AllReadyH.nil
              go_simp
              go_wp2_with (have y0 := bw7.drew; go_at_call 12; refine (H1.out _ y0 hg7).mono ?_; rintro e x1 ⟨rfl, p1⟩; have y1 := y0.trans (p1.mono y0.size))
              refine hK.out _ _ ?_ (fun hS => ?_)
              · exact hS.below p1
              clear hK K
              refine wpAnyH_ready (rs := [5]) (by as_aux_lemma => kernel_rfl) (by simp) ?_
              refine AllReadyH.cons rfl (fun K hK => ?_) AllReadyH.nil
              go_simp
              go_wp2_with (go_at_call 12; refine (H2.out _ y1 (he7.below p1 (Nat.le_refl _))).mono ?_; rintro e x2 ⟨rfl, p2⟩; have y2 := y1.trans (p2.mono y1.size))
              refine hK.out _ _ ?_ (fun hS => ?_)
              · exact hS.below p2
              clear hK K
              refine wpAnyH_take (i := 6) (v := ?_) rfl (by as_aux_lemma => kernel_rfl) (by as_aux_lemma => kernel_rfl) (by as_aux_lemma => kernel_rfl) (fun _ _ _ h => h) (Or.inl ⟨by kernel_rfl, ?_⟩) hS ?_
              rotate_left
              · intro w hSw; have c0 := hSw.cell0; have c1 := hSw.cell1; have c2 := hSw.cell2; simp only at c0 c1 c2; go_simp
                first | done | with_reducible rfl
              skip
              refine wpAnyH_take (i := 7) (v := ?_) rfl (by as_aux_lemma => kernel_rfl) (by as_aux_lemma => kernel_rfl) (by as_aux_lemma => kernel_rfl) (fun _ _ _ h => h) (Or.inl ⟨by kernel_rfl, ?_⟩) hS ?_
              rotate_left
              · intro w hSw; have c0 := hSw.cell0; have c1 := hSw.cell1; have c2 := hSw.cell2; simp only at c0 c1 c2; go_simp
                first | done | with_reducible rfl
              skip
              refine wpAnyH_take (i := 8) (v := ?_) rfl (by as_aux_lemma => kernel_rfl) (by as_aux_lemma => kernel_rfl) (by as_aux_lemma => kernel_rfl) (fun _ _ _ h => h) (Or.inl ⟨by kernel_rfl, ?_⟩) hS ?_
              rotate_left
              · intro w hSw; have c0 := hSw.cell0; have c1 := hSw.cell1; have c2 := hSw.cell2; simp only at c0 c1 c2; go_simp
                first | done | with_reducible rfl
              skip
              refine wpAnyH_take (i := 10) (v := ?_) rfl (by as_aux_lemma => kernel_rfl) (by as_aux_lemma => kernel_rfl) (by as_aux_lemma => kernel_rfl) (fun _ _ _ h => h) (Or.inl ⟨by kernel_rfl, ?_⟩) hS ?_
              rotate_left
              · intro w hSw; have c0 := hSw.cell0; have c1 := hSw.cell1; have c2 := hSw.cell2; simp only at c0 c1 c2; go_simp
                first | done | with_reducible rfl
              skip
              refine wpAnyH_take (i := 11) (v := ?_) rfl (by as_aux_lemma => kernel_rfl) (by as_aux_lemma => kernel_rfl) (by as_aux_lemma => kernel_rfl) (fun _ _ _ h => h) (Or.inl ⟨by kernel_rfl, ?_⟩) hS ?_
              rotate_left
              · intro w hSw; have c0 := hSw.cell0; have c1 := hSw.cell1; have c2 := hSw.cell2; simp only at c0 c1 c2; go_simp
                first | done | with_reducible rfl
              skip
              refine wpAnyH_ready (rs := [9]) (by as_aux_lemma => kernel_rfl) (by simp) ?_
              refine AllReadyH.cons rfl (fun K hK => ?_) AllReadyH.nil
              go_simp
              go_wp2_with (go_at_call 12; refine (H3.out _ y2 (fun k => absurd k (by simp))).mono ?_; rintro e x3 ⟨rfl, p3⟩; have y3 := y2.trans (p3.mono y2.size))
              refine hK.out _ _ ?_ (fun hS => ?_)
              · exact hS.below p3
              clear hK K
              refine wpAnyH_ready (rs := [12]) (by as_aux_lemma => kernel_rfl) (by simp) ?_
              refine AllReadyH.cons rfl (fun K hK => ?_) AllReadyH.nil
              go_simp
              go_wp2_with (go_at_call 12; refine (H1.out _ y3 (((hg7.below p1 (Nat.le_refl _)).below p2 (Nat.le_refl _)).below p3 (Nat.le_refl _))).mono ?_; rintro e x4 ⟨rfl, p4⟩; have y4 := y3.trans (p4.mono y3.size))
              refine hK.out _ _ ?_ (fun hS => ?_)
              · exact hS.below p4
              clear hK K
              refine wpAnyH_take (i := 13) (v := ?_) rfl (by as_aux_lemma => kernel_rfl) (by as_aux_lemma => kernel_rfl) (by as_aux_lemma => kernel_rfl) (fun _ _ _ h => h) (Or.inl ⟨by kernel_rfl, ?_⟩) hS ?_
              rotate_left
              · intro w hSw; have c0 := hSw.cell0; have c1 := hSw.cell1; have c2 := hSw.cell2; simp only at c0 c1 c2; go_simp
                first | done | with_reducible rfl
              skip
              refine wpAnyH_take (i := 14) (v := ?_) rfl (by as_aux_lemma => kernel_rfl) (by as_aux_lemma => kernel_rfl) (by as_aux_lemma => kernel_rfl) (fun _ _ _ h => h) (Or.inl ⟨by kernel_rfl, ?_⟩) hS ?_
              rotate_left
              · intro w hSw; have c0 := hSw.cell0; have c1 := hSw.cell1; have c2 := hSw.cell2; simp only at c0 c1 c2; go_simp
                first | done | with_reducible rfl
              skip
              refine wpAnyH_take (i := 15) (v := ?_) rfl (by as_aux_lemma => kernel_rfl) (by as_aux_lemma => kernel_rfl) (by as_aux_lemma => kernel_rfl) (fun _ _ _ h => h) (Or.inl ⟨by kernel_rfl, ?_⟩) hS ?_
              rotate_left
              · intro w hSw; have c0 := hSw.cell0; have c1 := hSw.cell1; have c2 := hSw.cell2; simp only at c0 c1 c2; go_simp
                first | done | with_reducible rfl
              skip
              refine wpAnyH_ready (rs := [16]) (by as_aux_lemma => kernel_rfl) (by simp) ?_
              refine AllReadyH.cons rfl (fun K hK => ?_) AllReadyH.nil
              go_simp
              go_wp2_with (go_at_call 7; refine (HW.out _ y4).mono ?_; rintro e x5 ⟨rfl, p5⟩; have y5 := y4.trans (p5.mono y4.size))
              refine hK.out _ _ ?_ (fun hS => ?_)
              · exact hS.below p5
              clear hK K
              refine wpAnyH_take (i := 17) (v := ?_) rfl (by as_aux_lemma => kernel_rfl) (by as_aux_lemma => kernel_rfl) (by as_aux_lemma => kernel_rfl) (fun _ _ _ h => h) (Or.inl ⟨by kernel_rfl, ?_⟩) hS ?_
              rotate_left
              · intro w hSw; have c0 := hSw.cell0; have c1 := hSw.cell1; have c2 := hSw.cell2; simp only at c0 c1 c2; go_simp
                first | done | with_reducible rfl
              skip
              refine wpAnyH_take (i := 18) (v := ?_) rfl (by as_aux_lemma => kernel_rfl) (by as_aux_lemma => kernel_rfl) (by as_aux_lemma => kernel_rfl) (fun _ _ _ h => h) (Or.inl ⟨by kernel_rfl, ?_⟩) hS ?_
              rotate_left
              · intro w hSw; have c0 := hSw.cell0; have c1 := hSw.cell1; have c2 := hSw.cell2; simp only at c0 c1 c2; go_simp
                first | done | with_reducible rfl
              skip
              refine wpAnyH_done (by kernel_rfl) ?_ _
              go_wp2
              go_ret
              exact ⟨rfl, y5⟩
    · have hb : ((mErr (n, o, v) : Int) != 0) = true := by simpa using he
      generalize mErr (n, o, v) = Er at *
      clear he
      go_enter Tryd.func5, Tryd.ntmps5
      go_wp2_with (go_at_call 6; refine (HL.out _ hP).mono ?_; rintro e w1 ⟨rfl, q1⟩; refine Hid.out ?_)
      refine Lib.hid ?_
      have b1 := hA.trans (q1.mono (by omega))
      have hm1 : MtBlk w1 w.heap.size (n, o, v) := (q1.block w.heap.size (by omega)).trans hm0
      have c0 : w1.cell? ⟨w.heap.size, 0, none⟩ = some (.string n) := hm1.cell0
      have c1 : w1.cell? ⟨w.heap.size, 1, none⟩ = some (.int .u8 (o : Int)) := hm1.cell1
      have c2 : w1.cell? ⟨w.heap.size, 2, none⟩ = some (.string v) := hm1.cell2
      have HC1 := Lib.hid (HC.out w1 b1)
      go_wp2_with (go_at_call 11; refine HC1.out.mono ?_; rintro e w2 ⟨rfl, q2⟩; refine Hid.out ?_)
      refine Lib.hid ?_
      have b2 := b1.trans (q2.mono b1.size)
      have HW1 := Lib.hid (HW.out w2 b2)
      go_wp2_with (go_at_call 7; refine HW1.out.mono ?_; rintro e w3 ⟨rfl, q3⟩)
      go_ret
      exact ⟨rfl, b2.trans (q3.mono b2.size)⟩
  · rw [decide_eq_false hl] at HL
    clear hl
    go_enter Tryd.func5, Tryd.ntmps5
    go_wp2_with (go_at_call 6; refine (HL.out _ hP).mono ?_; rintro e w1 ⟨rfl, q1⟩; refine Hid.out ?_)
    refine Lib.hid ?_
    have b1 := hA.trans (q1.mono (by omega))
    have HW1 := Lib.hid (HW.out w1 b1)
    go_wp2_with (go_at_call 7; refine HW1.out.mono ?_; rintro e w2 ⟨rfl, q2⟩)
    go_ret
    exact ⟨rfl, b1.trans (q2.mono b1.size)⟩

end Go.Proofs.YtlcbkhmaemoahabDoor
