/-
  What the reference lays: a member, an entry, a packet. What the reference lays of a packet.
-/
import Derived.Test.YtchhdffehkcecaaDoorP13
import Derived.Test.YtchhdffehkcecaaDoorRef2
namespace Go.Proofs.YtchhdffehkcecaaDoor
open Go Go.RowKit

theorem refList_val (q : Option Addr) (c : Nat) (ls : List (List UInt8)) (w : World) (h : PartsAt w q ls) (hn : ls.length ≤ 140737488355328) (hl : ls.flatten.length ≤ 140737488355000) (n : Nat) (hnl : n = ls.length) :
    Calls Tryd.prog 38 #[.slice q n c] w fun e w' => ∃ a k c, e = .returned (.slice a k c) ∧ OwnM w' w.heap.size (.slice a k c) (putList ls) ∧ Below w.heap.size w w' := by
  subst hnl
  exact refList_own q c ls w h hn hl
theorem ownM_base {w : World} {B B' : Nat} {v : Value} {l : List UInt8} (h : OwnM w B v l) (hb : B' ≤ B) : OwnM w B' v l := by
  rcases h with h | ⟨g, e, hB, rest⟩
  · exact .inl (ownE_base h hb)
  · exact .inr ⟨g, e, Nat.le_trans hb hB, rest⟩
theorem ownM_far {w : World} {B : Nat} {v : Value} {l : List UInt8} (h : OwnM w B v l) : ∀ q n c, v = .slice (some q) n c → B ≤ q.block ∧ q.block < w.heap.size := by
  rintro q n c rfl
  rcases h with h | ⟨g, e, hB, hg, -⟩
  · exact own_block_lt h q n c rfl
  · simp only [Value.slice.injEq, Option.some.injEq] at e
    rw [e.1]
    exact ⟨hB, hg⟩
set_option maxRecDepth 100000 in
set_option maxHeartbeats 4000000 in
theorem yMember_any (m : Mem) (hm : m.Ok) (B : Nat) (W : World) (hB : B ≤ W.heap.size) (hv : TabE B W) :
    Calls Tryd.prog 21 #[.agg #[.int .u16 m.n, .int .u8 m.s, .int .i64 m.i]] W fun e w' => ∃ a k c, e = .returned (.slice a k c) ∧ OwnM w' W.heap.size (.slice a k c) (layM m) ∧ Below W.heap.size W w' := by
  have b1 := MBlk.new W m
  have d1 := (Below.refl _ W).alloc (Nat.le_refl _) (.cells #[.int .u16 m.n, .int .u8 m.s, .int .i64 m.i] 45)
  have HZ := Lib.hid (And.intro b1 d1)
  have HX := Lib.hid (And.intro hm (And.intro hB hv))
  have w0 : IntKind.i64.wrap m.n = m.n := by rw [IntKind.wrap_i64]; have := hm.1; omega
  have w1 : IntKind.i64.wrap m.s = m.s := by rw [IntKind.wrap_i64]; have := hm.2.1; omega
  clear b1 d1 hm hB hv
  go_enter Tryd.func21, Tryd.ntmps21
  go_wp2_with fail
  obtain ⟨b2, d2⟩ := HZ.out
  generalize hw2 : (W.alloc (.cells #[.int .u16 m.n, .int .u8 m.s, .int .i64 m.i] 45)) = w2 at *
  clear hw2 HZ
  have HD := Lib.hid d2
  obtain ⟨hm, hB, hv⟩ := HX.out
  have q2 : Below W.heap.size W w2.drew := d2.drew
  have v2 := hv.on (q2.mono hB)
  have HA1 := Lib.hid (refInt_any m.n (by have := hm.1; omega) (by have := hm.1; omega) w2.drew)
  clear hm hB hv v2 q2 d2
  refine wp_region_any (by kernel_rfl) ?_
  change wpAny _ _ _ _ _ _ _ (World.drew _)
  have hS : (fun w' : World => MBlk w' W.heap.size m) w2.drew := b2
  refine wpAny_of_held (S := fun w' => MBlk w' W.heap.size m) _ _ _ _ ?_
  clear b2
  refine wpAnyH_takeE (i := 0) (some 3) (v := ?_) rfl rfl (by as_aux_lemma => kernel_rfl) (by as_aux_lemma => kernel_rfl) (by as_aux_lemma => kernel_rfl) (fun _ _ _ h => h) (Or.inl ⟨by kernel_rfl, ?_⟩) hS ?_
  rotate_left
  · intro w hSw; have c0 := hSw.c0; have c1 := hSw.c1; have c2 := hSw.c2; go_simp
    first | done | with_reducible rfl
  refine wpAnyH_takeE (i := 1) (some 4) (v := ?_) rfl rfl (by as_aux_lemma => kernel_rfl) (by as_aux_lemma => kernel_rfl) (by as_aux_lemma => kernel_rfl) (fun _ _ _ h => h) (Or.inl ⟨by kernel_rfl, ?_⟩) hS ?_
  rotate_left
  · intro w hSw; have c0 := hSw.c0; have c1 := hSw.c1; have c2 := hSw.c2; go_simp
    first | done | with_reducible rfl
  refine wpAnyH_takeE (i := 2) (some 5) (v := ?_) rfl rfl (by as_aux_lemma => kernel_rfl) (by as_aux_lemma => kernel_rfl) (by as_aux_lemma => kernel_rfl) (fun _ _ _ h => h) (Or.inl ⟨by kernel_rfl, ?_⟩) hS ?_
  rotate_left
  · intro w hSw; have c0 := hSw.c0; have c1 := hSw.c1; have c2 := hSw.c2; go_simp
    first | done | with_reducible rfl
  refine wpAnyH_takeE (i := 4) (some 7) (v := ?_) rfl rfl (by as_aux_lemma => kernel_rfl) (by as_aux_lemma => kernel_rfl) (by as_aux_lemma => kernel_rfl) (fun _ _ _ h => h) (Or.inl ⟨by kernel_rfl, ?_⟩) hS ?_
  rotate_left
  · intro w hSw; have c0 := hSw.c0; have c1 := hSw.c1; have c2 := hSw.c2; go_simp
    first | done | with_reducible rfl
  refine wpAnyH_takeE (i := 5) (some 8) (v := ?_) rfl rfl (by as_aux_lemma => kernel_rfl) (by as_aux_lemma => kernel_rfl) (by as_aux_lemma => kernel_rfl) (fun _ _ _ h => h) (Or.inl ⟨by kernel_rfl, ?_⟩) hS ?_
  rotate_left
  · intro w hSw; have c0 := hSw.c0; have c1 := hSw.c1; have c2 := hSw.c2; go_simp
    first | done | with_reducible rfl
  refine wpAnyH_takeE (i := 6) (some 9) (v := ?_) rfl rfl (by as_aux_lemma => kernel_rfl) (by as_aux_lemma => kernel_rfl) (by as_aux_lemma => kernel_rfl) (fun _ _ _ h => h) (Or.inl ⟨by kernel_rfl, ?_⟩) hS ?_
  rotate_left
  · intro w hSw; have c0 := hSw.c0; have c1 := hSw.c1; have c2 := hSw.c2; go_simp
    first | done | with_reducible rfl
  refine wpAnyH_takeE (i := 8) (some 11) (v := ?_) rfl rfl (by as_aux_lemma => kernel_rfl) (by as_aux_lemma => kernel_rfl) (by as_aux_lemma => kernel_rfl) (fun _ _ _ h => h) (Or.inl ⟨by kernel_rfl, ?_⟩) hS ?_
  rotate_left
  · intro w hSw; have c0 := hSw.c0; have c1 := hSw.c1; have c2 := hSw.c2; go_simp
    first | done | with_reducible rfl
  refine wpAnyH_takeE (i := 9) (some 12) (v := ?_) rfl rfl (by as_aux_lemma => kernel_rfl) (by as_aux_lemma => kernel_rfl) (by as_aux_lemma => kernel_rfl) (fun _ _ _ h => h) (Or.inl ⟨by kernel_rfl, ?_⟩) hS ?_
  rotate_left
  · intro w hSw; have c0 := hSw.c0; have c1 := hSw.c1; have c2 := hSw.c2; go_simp
    first | done | with_reducible rfl
  refine wpAnyH_ready (rs := [3]) (by as_aux_lemma => kernel_rfl) (by simp) ?_
  refine AllReadyH.cons rfl (fun K hK => ?_) AllReadyH.nil
  go_simp
  go_wp2_with (go_at_call 40; refine HA1.out.mono ?_; rintro e w3 ⟨a3, k3, c3, rfl, ho3, -, hb3⟩)
  refine hK.out _ _ ?_ (fun hS => ?_)
  · exact hS.on hb3
  clear hK K
  obtain ⟨hm, hB, hv⟩ := HX.out
  have d3 : Below W.heap.size W w3 := HD.out.drew.trans (hb3.mono (HD.out.drew).size)
  have v3 := hv.on (d3.mono hB)
  have HD3 := Lib.hid d3
  have HO3 := Lib.hid ho3
  have HB3 := Lib.hid hb3
  have HA2 := Lib.hid (refInt_any m.s (by have := hm.2.1; omega) (by have := hm.2.1; omega) w3)
  clear hm hB hv v3 d3 ho3 hb3 HA1
  refine wpAnyH_ready (rs := [7]) (by as_aux_lemma => kernel_rfl) (by simp) ?_
  refine AllReadyH.cons rfl (fun K hK => ?_) AllReadyH.nil
  go_simp
  go_wp2_with (go_at_call 40; refine HA2.out.mono ?_; rintro e w4 ⟨a4, k4, c4, rfl, ho4, -, hb4⟩)
  refine hK.out _ _ ?_ (fun hS => ?_)
  · exact hS.on hb4
  clear hK K
  obtain ⟨hm, hB, hv⟩ := HX.out
  have d4 : Below W.heap.size W w4 := HD3.out.trans (hb4.mono (HD3.out).size)
  have v4 := hv.on (d4.mono hB)
  have HD4 := Lib.hid d4
  have HO4 := Lib.hid ho4
  have HB4 := Lib.hid hb4
  have HA3 := Lib.hid (refInt_any m.i hm.2.2.1 hm.2.2.2 w4)
  clear hm hB hv v4 d4 ho4 hb4 HA2
  refine wpAnyH_ready (rs := [10]) (by as_aux_lemma => kernel_rfl) (by simp) ?_
  refine AllReadyH.cons rfl (fun K hK => ?_) AllReadyH.nil
  go_simp
  go_wp2_with (go_at_call 40; refine HA3.out.mono ?_; rintro e w5 ⟨a5, k5, c5, rfl, ho5, -, hb5⟩)
  refine hK.out _ _ ?_ (fun hS => ?_)
  · exact hS.on hb5
  clear hK K
  obtain ⟨hm, hB, hv⟩ := HX.out
  have d5 : Below W.heap.size W w5 := HD4.out.trans (hb5.mono (HD4.out).size)
  have v5 := hv.on (d5.mono hB)
  have HD5 := Lib.hid d5
  have HO5 := Lib.hid ho5
  have HB5 := Lib.hid hb5
  clear hm hB hv v5 d5 ho5 hb5 HA3
  refine wpAnyH_ready (rs := [11]) (by as_aux_lemma => kernel_rfl) (by simp) ?_
  refine AllReadyH.cons rfl (fun K hK => ?_) AllReadyH.nil
  go_simp
  go_wp2_with (fail)
  refine hK.out _ _ ?_ (fun hS => ?_)
  · exact hS.on ((Below.refl w5.heap.size w5).alloc (Nat.le_refl _) _)
  clear hK K
  have hbb : Below w5.heap.size w5 (w5.alloc (.cells #[.slice (some a3) k3 c3, .slice (some a4) k4 c4, .slice (some a5) k5 c5] 30)) := (Below.refl _ _).alloc (Nat.le_refl _) _
  have e3 := ((HO3.out.below HB4.out (Nat.le_refl _)).below HB5.out (Nat.le_refl _)).below hbb (Nat.le_refl _)
  have e4 := (HO4.out.below HB5.out (Nat.le_refl _)).below hbb (Nat.le_refl _)
  have e5 := HO5.out.below hbb (Nat.le_refl _)
  have n0 := newE w5 (.cells #[.slice (some a3) k3 c3, .slice (some a4) k4 c4, .slice (some a5) k5 c5] 30)
  have hp : PartsAt (w5.alloc (.cells #[.slice (some a3) k3 c3, .slice (some a4) k4 c4, .slice (some a5) k5 c5] 30)) (some ⟨w5.heap.size, 0, none⟩) (partsM m) := fun _ => ⟨_, 0, rfl, fun i hi => by
    match i, hi with
    | 0, _ => exact ⟨_, cellE n0, e3⟩
    | 1, _ => exact ⟨_, cellE n0, e4⟩
    | 2, _ => exact ⟨_, cellE n0, e5⟩⟩
  have HL := Lib.hid (refList_val (some ⟨w5.heap.size, 0, none⟩) 3 _ _ hp (by simp [partsM]) (by have := partsM_len m HX.out.1; omega) 3 rfl)
  have HN := Lib.hid (HD5.out.trans (hbb.mono HD5.out.size))
  have HZ := Lib.hid (show W.heap.size ≤ (w5.alloc (.cells #[.slice (some a3) k3 c3, .slice (some a4) k4 c4, .slice (some a5) k5 c5] 30)).heap.size from HN.out.size)
  clear hp e3 e4 e5 hbb n0 HO3 HB3 HD3 HO4 HB4 HD4 HO5 HB5 HD5 HD
  refine wpAnyH_ready (rs := [12]) (by as_aux_lemma => kernel_rfl) (by simp) ?_
  refine AllReadyH.cons rfl (fun K hK => ?_) AllReadyH.nil
  go_simp
  go_wp2_with (go_at_call 38; refine HL.out.mono ?_; rintro e w6 ⟨a6, k6, c6, rfl, ho6, hb6⟩)
  refine hK.out _ _ ?_ (fun hS => ?_)
  · exact hS.on hb6
  clear hK K
  refine wpAnyH_takeE (i := 13) (some 2) (v := ?_) rfl rfl (by as_aux_lemma => kernel_rfl) (by as_aux_lemma => kernel_rfl) (by as_aux_lemma => kernel_rfl) (fun _ _ _ h => h) (Or.inl ⟨by kernel_rfl, ?_⟩) hS ?_
  rotate_left
  · intro w hSw; skip; go_simp
    first | done | with_reducible rfl
  refine wpAnyH_done (by kernel_rfl) ?_ _
  have ho' : OwnM w6 W.heap.size (.slice a6 k6 c6) (layM m) := ownM_base ho6 HZ.out
  have HF := Lib.hid (And.intro ho' (HN.out.trans (hb6.mono HZ.out)))
  clear ho6 ho' hb6 hS HL HN HZ
  go_wp2
  go_ret
  exact ⟨a6, k6, c6, rfl, HF.out.1, HF.out.2⟩
set_option maxRecDepth 100000 in
set_option maxHeartbeats 4000000 in
theorem eRefPut_any (x : Ent) (hx : x.Ok) (hk : x.k.size ≤ 140737488351232) (hvs : x.v.size ≤ 140737488351232) (hl : (partsE9 x).flatten.length ≤ 140737488355000) (B : Nat) (W : World) (hB : B ≤ W.heap.size) (hv : TabE B W) :
    Calls Tryd.prog 18 #[.agg #[.string x.k, .int .i64 x.t, .int .u16 x.o, .string x.v, .int .i64 x.u]] W fun e w' => ∃ a k c, e = .returned (.slice a k c) ∧ OwnM w' W.heap.size (.slice a k c) (putEn x) ∧ Below W.heap.size W w' := by
  have b1 := EBlk.new W x
  have d1 := (Below.refl _ W).alloc (Nat.le_refl _) (.cells #[.string x.k, .int .i64 x.t, .int .u16 x.o, .string x.v, .int .i64 x.u] 48)
  have HZ := Lib.hid (And.intro b1 d1)
  have HX := Lib.hid (And.intro hx (And.intro hk (And.intro hvs (And.intro hl (And.intro hB hv)))))
  have wo : IntKind.i64.wrap x.o = x.o := by rw [IntKind.wrap_i64]; have := hx.2.1; omega
  clear b1 d1 hx hk hvs hl hB hv
  go_enter Tryd.func18, Tryd.ntmps18
  go_wp2_with fail
  obtain ⟨b2, d2⟩ := HZ.out
  generalize hw2 : (W.alloc (.cells #[.string x.k, .int .i64 x.t, .int .u16 x.o, .string x.v, .int .i64 x.u] 48)) = w2 at *
  clear hw2 HZ
  have hW2 := d2.size
  have HD := Lib.hid d2
  obtain ⟨hx, hk, hvs, hl, hB, hv⟩ := HX.out
  have q2 : Below W.heap.size W w2.drew := d2.drew
  have v2 := hv.on (q2.mono hB)
  have HV2 := Lib.hid v2
  have HA1 := Lib.hid (refText_any x.k hk w2.drew)
  clear hx hk hvs hl hB hv v2 q2 d2
  refine wp_region_any (by kernel_rfl) ?_
  change wpAny _ _ _ _ _ _ _ (World.drew _)
  have hS : (fun w' : World => EBlk w' W.heap.size x) w2.drew := b2
  refine wpAny_of_held (S := fun w' => EBlk w' W.heap.size x) _ _ _ _ ?_
  clear b2
  refine wpAnyH_takeE (i := 0) (some 3) (v := ?_) rfl rfl (by as_aux_lemma => kernel_rfl) (by as_aux_lemma => kernel_rfl) (by as_aux_lemma => kernel_rfl) (fun _ _ _ h => h) (Or.inl ⟨by kernel_rfl, ?_⟩) hS ?_
  rotate_left
  · intro w hSw; have c0 := hSw.c0; have c1 := hSw.c1; have c2 := hSw.c2; have c3 := hSw.c3; have c4 := hSw.c4; go_simp
    first | done | with_reducible rfl
  refine wpAnyH_takeE (i := 1) (some 4) (v := ?_) rfl rfl (by as_aux_lemma => kernel_rfl) (by as_aux_lemma => kernel_rfl) (by as_aux_lemma => kernel_rfl) (fun _ _ _ h => h) (Or.inl ⟨by kernel_rfl, ?_⟩) hS ?_
  rotate_left
  · intro w hSw; have c0 := hSw.c0; have c1 := hSw.c1; have c2 := hSw.c2; have c3 := hSw.c3; have c4 := hSw.c4; go_simp
    first | done | with_reducible rfl
  refine wpAnyH_takeE (i := 3) (some 6) (v := ?_) rfl rfl (by as_aux_lemma => kernel_rfl) (by as_aux_lemma => kernel_rfl) (by as_aux_lemma => kernel_rfl) (fun _ _ _ h => h) (Or.inl ⟨by kernel_rfl, ?_⟩) hS ?_
  rotate_left
  · intro w hSw; have c0 := hSw.c0; have c1 := hSw.c1; have c2 := hSw.c2; have c3 := hSw.c3; have c4 := hSw.c4; go_simp
    first | done | with_reducible rfl
  refine wpAnyH_takeE (i := 4) (some 7) (v := ?_) rfl rfl (by as_aux_lemma => kernel_rfl) (by as_aux_lemma => kernel_rfl) (by as_aux_lemma => kernel_rfl) (fun _ _ _ h => h) (Or.inl ⟨by kernel_rfl, ?_⟩) hS ?_
  rotate_left
  · intro w hSw; have c0 := hSw.c0; have c1 := hSw.c1; have c2 := hSw.c2; have c3 := hSw.c3; have c4 := hSw.c4; go_simp
    first | done | with_reducible rfl
  refine wpAnyH_takeE (i := 6) (some 9) (v := ?_) rfl rfl (by as_aux_lemma => kernel_rfl) (by as_aux_lemma => kernel_rfl) (by as_aux_lemma => kernel_rfl) (fun _ _ _ h => h) (Or.inl ⟨by kernel_rfl, ?_⟩) hS ?_
  rotate_left
  · intro w hSw; have c0 := hSw.c0; have c1 := hSw.c1; have c2 := hSw.c2; have c3 := hSw.c3; have c4 := hSw.c4; go_simp
    first | done | with_reducible rfl
  refine wpAnyH_takeE (i := 7) (some 10) (v := ?_) rfl rfl (by as_aux_lemma => kernel_rfl) (by as_aux_lemma => kernel_rfl) (by as_aux_lemma => kernel_rfl) (fun _ _ _ h => h) (Or.inl ⟨by kernel_rfl, ?_⟩) hS ?_
  rotate_left
  · intro w hSw; have c0 := hSw.c0; have c1 := hSw.c1; have c2 := hSw.c2; have c3 := hSw.c3; have c4 := hSw.c4; go_simp
    first | done | with_reducible rfl
  refine wpAnyH_takeE (i := 8) (some 11) (v := ?_) rfl rfl (by as_aux_lemma => kernel_rfl) (by as_aux_lemma => kernel_rfl) (by as_aux_lemma => kernel_rfl) (fun _ _ _ h => h) (Or.inl ⟨by kernel_rfl, ?_⟩) hS ?_
  rotate_left
  · intro w hSw; have c0 := hSw.c0; have c1 := hSw.c1; have c2 := hSw.c2; have c3 := hSw.c3; have c4 := hSw.c4; go_simp
    first | done | with_reducible rfl
  refine wpAnyH_takeE (i := 10) (some 13) (v := ?_) rfl rfl (by as_aux_lemma => kernel_rfl) (by as_aux_lemma => kernel_rfl) (by as_aux_lemma => kernel_rfl) (fun _ _ _ h => h) (Or.inl ⟨by kernel_rfl, ?_⟩) hS ?_
  rotate_left
  · intro w hSw; have c0 := hSw.c0; have c1 := hSw.c1; have c2 := hSw.c2; have c3 := hSw.c3; have c4 := hSw.c4; go_simp
    first | done | with_reducible rfl
  refine wpAnyH_takeE (i := 11) (some 14) (v := ?_) rfl rfl (by as_aux_lemma => kernel_rfl) (by as_aux_lemma => kernel_rfl) (by as_aux_lemma => kernel_rfl) (fun _ _ _ h => h) (Or.inl ⟨by kernel_rfl, ?_⟩) hS ?_
  rotate_left
  · intro w hSw; have c0 := hSw.c0; have c1 := hSw.c1; have c2 := hSw.c2; have c3 := hSw.c3; have c4 := hSw.c4; go_simp
    first | done | with_reducible rfl
  refine wpAnyH_takeE (i := 13) (some 16) (v := ?_) rfl rfl (by as_aux_lemma => kernel_rfl) (by as_aux_lemma => kernel_rfl) (by as_aux_lemma => kernel_rfl) (fun _ _ _ h => h) (Or.inl ⟨by kernel_rfl, ?_⟩) hS ?_
  rotate_left
  · intro w hSw; have c0 := hSw.c0; have c1 := hSw.c1; have c2 := hSw.c2; have c3 := hSw.c3; have c4 := hSw.c4; go_simp
    first | done | with_reducible rfl
  refine wpAnyH_takeE (i := 14) (some 17) (v := ?_) rfl rfl (by as_aux_lemma => kernel_rfl) (by as_aux_lemma => kernel_rfl) (by as_aux_lemma => kernel_rfl) (fun _ _ _ h => h) (Or.inl ⟨by kernel_rfl, ?_⟩) hS ?_
  rotate_left
  · intro w hSw; have c0 := hSw.c0; have c1 := hSw.c1; have c2 := hSw.c2; have c3 := hSw.c3; have c4 := hSw.c4; go_simp
    first | done | with_reducible rfl
  refine wpAnyH_ready (rs := [2]) (by as_aux_lemma => kernel_rfl) (by simp) ?_
  refine AllReadyH.cons rfl (fun K hK => ?_) AllReadyH.nil
  go_simp
  go_wp2_with (go_at_call 39; refine HA1.out.mono ?_; rintro e w3 ⟨a3, k3, c3, rfl, ho3, -, hb3⟩)
  refine hK.out _ _ ?_ (fun hS => ?_)
  · exact hS.on hb3
  clear hK K
  obtain ⟨hx, hk, hvs, hl, hB, hv⟩ := HX.out
  have d3 : Below W.heap.size W w3 := HD.out.drew.trans (hb3.mono (HD.out.drew).size)
  have v3 := hv.on (d3.mono hB)
  have HD3 := Lib.hid d3
  have HO3 := Lib.hid ho3
  have HB3 := Lib.hid hb3
  have HA2 := Lib.hid (refInt_any x.t hx.1.1 hx.1.2 w3)
  clear hx hk hvs hl hB hv v3 d3 ho3 hb3 HA1
  refine wpAnyH_ready (rs := [5]) (by as_aux_lemma => kernel_rfl) (by simp) ?_
  refine AllReadyH.cons rfl (fun K hK => ?_) AllReadyH.nil
  go_simp
  go_wp2_with (go_at_call 40; refine HA2.out.mono ?_; rintro e w4 ⟨a4, k4, c4, rfl, ho4, -, hb4⟩)
  refine hK.out _ _ ?_ (fun hS => ?_)
  · exact hS.on hb4
  clear hK K
  obtain ⟨hx, hk, hvs, hl, hB, hv⟩ := HX.out
  have d4 : Below W.heap.size W w4 := HD3.out.trans (hb4.mono (HD3.out).size)
  have v4 := hv.on (d4.mono hB)
  have HD4 := Lib.hid d4
  have HO4 := Lib.hid ho4
  have HB4 := Lib.hid hb4
  have HA3 := Lib.hid (refInt_any x.o (by have := hx.2.1; omega) (by have := hx.2.1; omega) w4)
  clear hx hk hvs hl hB hv v4 d4 ho4 hb4 HA2
  refine wpAnyH_ready (rs := [9]) (by as_aux_lemma => kernel_rfl) (by simp) ?_
  refine AllReadyH.cons rfl (fun K hK => ?_) AllReadyH.nil
  go_simp
  go_wp2_with (go_at_call 40; refine HA3.out.mono ?_; rintro e w5 ⟨a5, k5, c5, rfl, ho5, -, hb5⟩)
  refine hK.out _ _ ?_ (fun hS => ?_)
  · exact hS.on hb5
  clear hK K
  obtain ⟨hx, hk, hvs, hl, hB, hv⟩ := HX.out
  have d5 : Below W.heap.size W w5 := HD4.out.trans (hb5.mono (HD4.out).size)
  have v5 := hv.on (d5.mono hB)
  have HD5 := Lib.hid d5
  have HO5 := Lib.hid ho5
  have HB5 := Lib.hid hb5
  have HA4 := Lib.hid (refText_any x.v hvs w5)
  clear hx hk hvs hl hB hv v5 d5 ho5 hb5 HA3
  refine wpAnyH_ready (rs := [12]) (by as_aux_lemma => kernel_rfl) (by simp) ?_
  refine AllReadyH.cons rfl (fun K hK => ?_) AllReadyH.nil
  go_simp
  go_wp2_with (go_at_call 39; refine HA4.out.mono ?_; rintro e w6 ⟨a6, k6, c6, rfl, ho6, -, hb6⟩)
  refine hK.out _ _ ?_ (fun hS => ?_)
  · exact hS.on hb6
  clear hK K
  obtain ⟨hx, hk, hvs, hl, hB, hv⟩ := HX.out
  have d6 : Below W.heap.size W w6 := HD5.out.trans (hb6.mono (HD5.out).size)
  have v6 := hv.on (d6.mono hB)
  have HD6 := Lib.hid d6
  have HO6 := Lib.hid ho6
  have HB6 := Lib.hid hb6
  have HA5 := Lib.hid (refInt_any x.u hx.2.2.1 hx.2.2.2 w6)
  clear hx hk hvs hl hB hv v6 d6 ho6 hb6 HA4
  refine wpAnyH_ready (rs := [15]) (by as_aux_lemma => kernel_rfl) (by simp) ?_
  refine AllReadyH.cons rfl (fun K hK => ?_) AllReadyH.nil
  go_simp
  go_wp2_with (go_at_call 40; refine HA5.out.mono ?_; rintro e w7 ⟨a7, k7, c7, rfl, ho7, -, hb7⟩)
  refine hK.out _ _ ?_ (fun hS => ?_)
  · exact hS.on hb7
  clear hK K
  obtain ⟨hx, hk, hvs, hl, hB, hv⟩ := HX.out
  have d7 : Below W.heap.size W w7 := HD6.out.trans (hb7.mono (HD6.out).size)
  have v7 := hv.on (d7.mono hB)
  have HD7 := Lib.hid d7
  have HO7 := Lib.hid ho7
  have HB7 := Lib.hid hb7
  clear hx hk hvs hl hB hv v7 d7 ho7 hb7 HA5
  refine wpAnyH_ready (rs := [16]) (by as_aux_lemma => kernel_rfl) (by simp) ?_
  refine AllReadyH.cons rfl (fun K hK => ?_) AllReadyH.nil
  go_simp
  go_wp2_with (fail)
  refine hK.out _ _ ?_ (fun hS => ?_)
  · exact hS.on ((Below.refl w7.heap.size w7).alloc (Nat.le_refl _) _)
  clear hK K
  have hbb : Below w7.heap.size w7 (w7.alloc (.cells #[.slice (some a3) k3 c3, .slice (some a4) k4 c4, .slice (some a5) k5 c5, .slice (some a6) k6 c6, .slice (some a7) k7 c7] 30)) := (Below.refl _ _).alloc (Nat.le_refl _) _
  have e3 := ((((HO3.out.below HB4.out (Nat.le_refl _)).below HB5.out (Nat.le_refl _)).below HB6.out (Nat.le_refl _)).below HB7.out (Nat.le_refl _)).below hbb (Nat.le_refl _)
  have e4 := (((HO4.out.below HB5.out (Nat.le_refl _)).below HB6.out (Nat.le_refl _)).below HB7.out (Nat.le_refl _)).below hbb (Nat.le_refl _)
  have e5 := ((HO5.out.below HB6.out (Nat.le_refl _)).below HB7.out (Nat.le_refl _)).below hbb (Nat.le_refl _)
  have e6 := (HO6.out.below HB7.out (Nat.le_refl _)).below hbb (Nat.le_refl _)
  have e7 := HO7.out.below hbb (Nat.le_refl _)
  have n0 := newE w7 (.cells #[.slice (some a3) k3 c3, .slice (some a4) k4 c4, .slice (some a5) k5 c5, .slice (some a6) k6 c6, .slice (some a7) k7 c7] 30)
  have hp : PartsAt (w7.alloc (.cells #[.slice (some a3) k3 c3, .slice (some a4) k4 c4, .slice (some a5) k5 c5, .slice (some a6) k6 c6, .slice (some a7) k7 c7] 30)) (some ⟨w7.heap.size, 0, none⟩) (partsE9 x) := fun _ => ⟨_, 0, rfl, fun i hi => by
    match i, hi with
    | 0, _ => exact ⟨_, cellE n0, e3⟩
    | 1, _ => exact ⟨_, cellE n0, e4⟩
    | 2, _ => exact ⟨_, cellE n0, e5⟩
    | 3, _ => exact ⟨_, cellE n0, e6⟩
    | 4, _ => exact ⟨_, cellE n0, e7⟩⟩
  have HL := Lib.hid (refList_val (some ⟨w7.heap.size, 0, none⟩) 5 _ _ hp (by simp [partsE9]) HX.out.2.2.2.1 5 rfl)
  have HN := Lib.hid (HD7.out.trans (hbb.mono HD7.out.size))
  have hz : W.heap.size ≤ (w7.alloc (.cells #[.slice (some a3) k3 c3, .slice (some a4) k4 c4, .slice (some a5) k5 c5, .slice (some a6) k6 c6, .slice (some a7) k7 c7] 30)).heap.size := HN.out.size
  have HZ := Lib.hid hz
  clear hp e3 e4 e5 e6 e7 hbb n0 HO3 HO4 HO5 HO6 HO7 HB3 HB4 HB5 HB6 HB7 HD3 HD4 HD5 HD6 HD7 HD hz
  refine wpAnyH_ready (rs := [17]) (by as_aux_lemma => kernel_rfl) (by simp) ?_
  refine AllReadyH.cons rfl (fun K hK => ?_) AllReadyH.nil
  go_simp
  go_wp2_with (go_at_call 38; refine HL.out.mono ?_; rintro e w8 ⟨a8, k8, c8, rfl, ho8, hb8⟩)
  refine hK.out _ _ ?_ (fun hS => ?_)
  · exact hS.on hb8
  clear hK K
  refine wpAnyH_takeE (i := 18) (some 2) (v := ?_) rfl rfl (by as_aux_lemma => kernel_rfl) (by as_aux_lemma => kernel_rfl) (by as_aux_lemma => kernel_rfl) (fun _ _ _ h => h) (Or.inl ⟨by kernel_rfl, ?_⟩) hS ?_
  rotate_left
  · intro w hSw; skip; go_simp
    first | done | with_reducible rfl
  refine wpAnyH_done (by kernel_rfl) ?_ _
  have ho9 : OwnM w8 W.heap.size (.slice a8 k8 c8) (putEn x) := ownM_base ho8 HZ.out
  have HF := Lib.hid (And.intro ho9 (HN.out.trans (hb8.mono HZ.out)))
  clear ho8 ho9 hb8 hS HL HN HZ
  go_wp2
  go_ret
  exact ⟨a8, k8, c8, rfl, HF.out.1, HF.out.2⟩


set_option maxRecDepth 100000 in
set_option maxHeartbeats 4000000 in
theorem yLay_any (p : Pk) (hp : p.Ok) (hs : p.Small) (am : Option Addr) (nm cm : Nat) (ae : Option Addr) (ne ce : Nat) (hnm : nm = p.ms.length) (hne : ne = p.es.length) (B : Nat) (W : World) (hB : B ≤ W.heap.size) (hv : TabE B W) (hM : MemsAt W am p.ms) (hE : EntsAt W ae p.es) :
    Calls Tryd.prog 27 #[.agg #[.int .u8 p.k, .int .u16 p.f, .int .u16 p.a, .int .i64 p.q, .slice am nm cm, .slice ae ne ce]] W fun e w' => ∃ a k c, e = .returned (.slice a k c) ∧ OwnM w' W.heap.size (.slice a k c) (layPk p) ∧ Below W.heap.size W w' := by
  obtain ⟨i0, hi0, hz0⟩ : ∃ i, Tryd.prog.info? 30 = some i ∧ (i.zero, i.size, i.bytes) = (some (.slice none 0 0), 1, 24) := by
    have h := infoBytes
    cases hq : Tryd.prog.info? 30 with
    | none => rw [hq] at h; cases h
    | some i => rw [hq] at h; exact ⟨i, rfl, by simpa using h⟩
  simp only [Prod.mk.injEq] at hz0
  obtain ⟨hz0, hz1, hz2⟩ := hz0
  have HI := Lib.hid (And.intro hi0 (And.intro hz0 (And.intro hz1 hz2)))
  clear hi0 hz0 hz1 hz2
  have d1 := (Below.refl _ W).alloc (Nat.le_refl _) (.cells #[.int .u8 p.k, .int .u16 p.f, .int .u16 p.a, .int .i64 p.q, .slice am nm cm, .slice ae ne ce] 26)
  have s1 : BSt W (W.alloc (.cells #[.int .u8 p.k, .int .u16 p.f, .int .u16 p.a, .int .i64 p.q, .slice am nm cm, .slice ae ne ce] 26)) p am nm cm ae ne ce (.slice none 0 0) [] := ⟨PkBlk.new W _ _ _ _ _ _ _ _ _ _, hM.on d1, hE.onP d1, .inl ⟨rfl, rfl⟩, d1⟩
  have x4 := s1.blk.c4; have x5 := s1.blk.c5
  have hle : W.heap.size ≤ (W.alloc (.cells #[.int .u8 p.k, .int .u16 p.f, .int .u16 p.a, .int .i64 p.q, .slice am nm cm, .slice ae ne ce] 26)).heap.size := d1.size
  have HZ := Lib.hid (And.intro s1 hle)
  have w0 : IntKind.i64.wrap p.k = p.k := by rw [IntKind.wrap_i64]; have := hp.k; omega
  have w1 : IntKind.i64.wrap p.f = p.f := by rw [IntKind.wrap_i64]; have := hp.f; omega
  have w2 : IntKind.i64.wrap p.a = p.a := by rw [IntKind.wrap_i64]; have := hp.a; omega
  have HA1 : Hid (∀ u, Calls Tryd.prog 40 #[.int .i64 p.k] u fun e w' => ∃ a k c, e = .returned (.slice (some a) k c) ∧ SrcAt w' (.slice (some a) k c) (putInt p.k) ∧ u.heap.size ≤ a.block ∧ Below u.heap.size u w') := Lib.hid (fun u => refInt_any p.k (by have := hp.k; omega) (by have := hp.k; omega) u)
  have HA2 : Hid (∀ u, Calls Tryd.prog 40 #[.int .i64 p.f] u fun e w' => ∃ a k c, e = .returned (.slice (some a) k c) ∧ SrcAt w' (.slice (some a) k c) (putInt p.f) ∧ u.heap.size ≤ a.block ∧ Below u.heap.size u w') := Lib.hid (fun u => refInt_any p.f (by have := hp.f; omega) (by have := hp.f; omega) u)
  have HA3 : Hid (∀ u, Calls Tryd.prog 40 #[.int .i64 p.a] u fun e w' => ∃ a k c, e = .returned (.slice (some a) k c) ∧ SrcAt w' (.slice (some a) k c) (putInt p.a) ∧ u.heap.size ≤ a.block ∧ Below u.heap.size u w') := Lib.hid (fun u => refInt_any p.a (by have := hp.a; omega) (by have := hp.a; omega) u)
  have HA4 : Hid (∀ u, Calls Tryd.prog 40 #[.int .i64 p.q] u fun e w' => ∃ a k c, e = .returned (.slice (some a) k c) ∧ SrcAt w' (.slice (some a) k c) (putInt p.q) ∧ u.heap.size ≤ a.block ∧ Below u.heap.size u w') := Lib.hid (fun u => refInt_any p.q hp.q.1 hp.q.2 u)
  have HYM : Hid (∀ u x, x ∈ p.ms → Below W.heap.size W u → Calls Tryd.prog 21 #[.agg #[.int .u16 x.n, .int .u8 x.s, .int .i64 x.i]] u fun e w' => ∃ a k c, e = .returned (.slice a k c) ∧ OwnM w' u.heap.size (.slice a k c) (layM x) ∧ Below u.heap.size u w') := Lib.hid (fun u x hx hu => yMember_any x (hp.ms x hx) B u (Nat.le_trans hB hu.size) (hv.on (hu.mono hB)))
  have HYE : Hid (∀ u x, x ∈ p.es → Below W.heap.size W u → Calls Tryd.prog 18 #[.agg #[.string x.k, .int .i64 x.t, .int .u16 x.o, .string x.v, .int .i64 x.u]] u fun e w' => ∃ a k c, e = .returned (.slice a k c) ∧ OwnM w' u.heap.size (.slice a k c) (putEn x) ∧ Below u.heap.size u w') := Lib.hid (fun u x hx hu => eRefPut_any x (hp.es x hx) (by have := checkEn_small (hs.ch x hx); omega) (by have := checkEn_small (hs.ch x hx); omega) (by have := putEn_short (hp.es x hx) (hs.ch x hx); omega) B u (Nat.le_trans hB hu.size) (hv.on (hu.mono hB)))
  have HX := Lib.hid (And.intro (hs.fp hp) (And.intro (hs.fm hp) (And.intro (hs.fe hp) (And.intro hnm hne))))
  have hnm9 : nm ≤ 64 := by have := hs.ms; omega
  have hne9 : ne ≤ 256 := by have := hs.es; omega
  clear d1 s1 hp hs hB hv hM hE hnm hne hle
  go_enter Tryd.func27, Tryd.ntmps27
  go_wp2_with fail
  obtain ⟨s1, hle⟩ := HZ.out
  generalize hw2 : (W.alloc (.cells #[.int .u8 p.k, .int .u16 p.f, .int .u16 p.a, .int .i64 p.q, .slice am nm cm, .slice ae ne ce] 26)) = wA at *
  clear hw2 HZ x4 x5
  have HS1 := Lib.hid s1
  have HLE := Lib.hid hle
  clear s1 hle
  go_loopw [3, 5] (fun v i wr => ∃ (k : Nat) (a7 : Option Addr) (n7 c7 : Nat) (vs : List Value), k ≤ nm ∧ i = .int .i64 k ∧ v = .slice a7 n7 c7 ∧ Hid (RowOf wr wA.heap.size (.slice a7 n7 c7) vs ((p.ms.take k).map layM)) ∧ Hid (Below wA.heap.size wA wr)) (fun _ i _ => nm - (intOf i).toNat)
  case atStart => exact ⟨0, _, _, _, [], Nat.zero_le _, rfl, rfl, Lib.hid (RowOf.nil _ _), Lib.hid (Below.refl _ _)⟩
  case round =>
    obtain ⟨k, a7, n7, c7, vs, hk, rfl, rfl, HR, HB⟩ := hrel
    have HSw := Lib.hid (HS1.out.on HB.out)
    have x4 := HSw.out.blk.c4; have x5 := HSw.out.blk.c5
    by_cases hlt : k < nm
    · have hkl : (k : Int) < (nm : Int) := by omega
      have hkx : k < p.ms.length := by have := HX.out.2.2.2; omega
      obtain ⟨b, o, e0, hb, c0, c1, c2⟩ := HSw.out.ms.cells k hkx
      have HC := Lib.hid (HYM.out wr p.ms[k] (List.getElem_mem hkx) HSw.out.low)
      have HTk := Lib.hid (show (p.ms.take (k + 1)).map layM = (p.ms.take k).map layM ++ [layM p.ms[k]] by rw [List.take_succ_eq_append_getElem hkx, List.map_append]; rfl)
      clear hb
      rw [e0] at x4
      have HE0 := Lib.hid e0
      clear e0
      generalize p.ms[k] = x at *
      clear hkx
      obtain ⟨nx, sx, ix⟩ := x
      dsimp only at c0 c1 c2 HC
      go_wp2_with (go_at_call 21; refine HC.out.mono ?_; rintro e w2 ⟨a9, k9, c9, rfl, ho2, q2⟩; refine Hid.out ?_)
      refine Lib.hid ?_
      have hown2 : (w2.alloc (.cells #[.slice a9 k9 c9] 30)).ownsRow wA.heap.size 30 1 (.slice a7 n7 c7) vs.length vs := ((HR.out.below q2).below ((Below.refl w2.heap.size w2).alloc (Nat.le_refl _) _)).own
      have hvl : vs.length = k := by have h7 := HR.out.len; have h8 := HX.out.2.2.2; simp only [List.length_map, List.length_take] at h7; omega
      have HZ := Lib.hid (And.intro ho2 (And.intro q2 (And.intro hown2 hvl)))
      clear c0 c1 c2 x4 x5 HC ho2 q2 hown2 hvl
      obtain ⟨ho2, q2, hown2, hvl⟩ := HZ.out
      obtain ⟨hi, hz0, hz1, hz2⟩ := HI.out
      have hvb : vs.length ≤ 100000 := by omega
      have hs2 := q2.size
      have hsr := HB.out.size
      clear hvl
      go_wp2_with (at_builtin; refine wpList_append_lies _ (by rfl) _ _ 75 (by rfl) wA.heap.size 30 i0 (.slice none 0 0) 1 24 Tryd.underlying75 hi hz0 hz1 hz2 rfl (by decide) (.slice a7 n7 c7) vs.length vs (by rfl) hown2 ⟨w2.heap.size, 0, none⟩ 1 1 [.slice a9 k9 c9] (by rfl) rfl (World.news_of_block (cs := #[.slice a9 k9 c9]) (heap_alloc_new _ _)) (by intro u' hu'; simp at hu'; subst hu'; rfl) (by decide) (by unfold maxLen; omega) (by omega) (by simp; omega) (w2.heap.size + 1) (by simp) ?_; refine Hid.out ?_)
      refine Lib.hid ?_
      intro g5 cap w5 hown5 hgrow5 hat5 hlt5
      have hrow5 := HR.out.steps (ms := [layM ⟨nx, sx, ix⟩]) q2 rfl (fun j hj => by
        match j, hj with
        | 0, _ => exact ho2.src) (by
        intro y hy q n' c' e
        simp only [List.mem_cons, List.not_mem_nil, or_false] at hy
        subst hy
        exact ownM_far ho2 q n' c' e) hown5 hgrow5 (hat5.imp (fun e => e.symm) (fun e => by rw [e]; rfl))
      rw [← HTk.out] at hrow5
      have hnx5 : Below wA.heap.size wA w5 := ((HB.out.trans (q2.mono hsr)).alloc (by omega) _).grown hgrow5 (by simp; omega) (fun j hj => (HR.out.own.lt j hj).1)
      have HF := Lib.hid (And.intro hrow5 hnx5)
      clear hown5 hgrow5 hat5 hrow5 hnx5 ho2 q2 hown2 HZ HTk hi hz0 hz1 hz2
      go_wp2
      go_roundw
      case rel => exact ⟨k + 1, _, _, _, _, by omega, by go_num, rfl, Lib.hid HF.out.1, Lib.hid HF.out.2⟩
      case measure => simp [intOf]; omega
    · have hkl : ¬ (k : Int) < (nm : Int) := by omega
      have hkn : k = nm := by omega
      have HP := Lib.hid HR.out
      have hall : (p.ms.take k).map layM = p.ms.map layM := by have h8 := HX.out.2.2.2; rw [show k = p.ms.length by omega, List.take_length]
      rw [hall] at HP
      clear hkn hall HR
      have HS2 := HSw
      have HB1 := HB
      clear HS1 HSw HB
      go_wp2
      clear x4 x5 hlt hkl
      obtain ⟨wB, rfl⟩ : ∃ x, x = wr := ⟨_, rfl⟩
      have HP1 := HP
      obtain ⟨a71, rfl⟩ : ∃ x, x = a7 := ⟨_, rfl⟩
      obtain ⟨n71, rfl⟩ : ∃ x, x = n7 := ⟨_, rfl⟩
      obtain ⟨c71, rfl⟩ : ∃ x, x = c7 := ⟨_, rfl⟩
      obtain ⟨vs1, rfl⟩ : ∃ x, x = vs := ⟨_, rfl⟩
      clear HP
      go_loopw [4, 6] (fun v i wr => ∃ (k : Nat) (a7 : Option Addr) (n7 c7 : Nat) (vs : List Value), k ≤ ne ∧ i = .int .i64 k ∧ v = .slice a7 n7 c7 ∧ Hid (RowOf wr wB.heap.size (.slice a7 n7 c7) vs ((p.es.take k).map putEn)) ∧ Hid (Below wB.heap.size wB wr)) (fun _ i _ => ne - (intOf i).toNat)
      case atStart => exact ⟨0, _, _, _, [], Nat.zero_le _, rfl, rfl, Lib.hid (RowOf.nil _ _), Lib.hid (Below.refl _ _)⟩
      case round =>
        obtain ⟨k, a7, n7, c7, vs, hk, rfl, rfl, HR, HB⟩ := hrel
        have HSw := Lib.hid (HS2.out.on HB.out)
        have x4 := HSw.out.blk.c4; have x5 := HSw.out.blk.c5
        by_cases hlt : k < ne
        · have hkl : (k : Int) < (ne : Int) := by omega
          have hkx : k < p.es.length := by have := HX.out.2.2.2; omega
          obtain ⟨b, o, e0, hb, c0, c1, c2, c3, c4⟩ := HSw.out.es.cellsP k hkx
          have HC := Lib.hid (HYE.out wr p.es[k] (List.getElem_mem hkx) HSw.out.low)
          have HTk := Lib.hid (show (p.es.take (k + 1)).map putEn = (p.es.take k).map putEn ++ [putEn p.es[k]] by rw [List.take_succ_eq_append_getElem hkx, List.map_append]; rfl)
          clear hb
          rw [e0] at x5
          have HE0 := Lib.hid e0
          clear e0
          generalize p.es[k] = x at *
          clear hkx
          obtain ⟨kx, tx, ox, vx, ux⟩ := x
          dsimp only at c0 c1 c2 c3 c4 HC
          go_wp2_with (go_at_call 18; refine HC.out.mono ?_; rintro e w2 ⟨a9, k9, c9, rfl, ho2, q2⟩; refine Hid.out ?_)
          refine Lib.hid ?_
          have hown2 : (w2.alloc (.cells #[.slice a9 k9 c9] 30)).ownsRow wB.heap.size 30 1 (.slice a7 n7 c7) vs.length vs := ((HR.out.below q2).below ((Below.refl w2.heap.size w2).alloc (Nat.le_refl _) _)).own
          have hvl : vs.length = k := by have h7 := HR.out.len; have h8 := HX.out.2.2.2; simp only [List.length_map, List.length_take] at h7; omega
          have HZ := Lib.hid (And.intro ho2 (And.intro q2 (And.intro hown2 hvl)))
          clear c0 c1 c2 c3 c4 x4 x5 HC ho2 q2 hown2 hvl
          obtain ⟨ho2, q2, hown2, hvl⟩ := HZ.out
          obtain ⟨hi, hz0, hz1, hz2⟩ := HI.out
          have hvb : vs.length ≤ 100000 := by omega
          have hs2 := q2.size
          have hsr := HB.out.size
          clear hvl
          go_wp2_with (at_builtin; refine wpList_append_lies _ (by rfl) _ _ 75 (by rfl) wB.heap.size 30 i0 (.slice none 0 0) 1 24 Tryd.underlying75 hi hz0 hz1 hz2 rfl (by decide) (.slice a7 n7 c7) vs.length vs (by rfl) hown2 ⟨w2.heap.size, 0, none⟩ 1 1 [.slice a9 k9 c9] (by rfl) rfl (World.news_of_block (cs := #[.slice a9 k9 c9]) (heap_alloc_new _ _)) (by intro u' hu'; simp at hu'; subst hu'; rfl) (by decide) (by unfold maxLen; omega) (by omega) (by simp; omega) (w2.heap.size + 1) (by simp) ?_; refine Hid.out ?_)
          refine Lib.hid ?_
          intro g5 cap w5 hown5 hgrow5 hat5 hlt5
          have hrow5 := HR.out.steps (ms := [putEn ⟨kx, tx, ox, vx, ux⟩]) q2 rfl (fun j hj => by
            match j, hj with
            | 0, _ => exact ho2.src) (by
            intro y hy q n' c' e
            simp only [List.mem_cons, List.not_mem_nil, or_false] at hy
            subst hy
            exact ownM_far ho2 q n' c' e) hown5 hgrow5 (hat5.imp (fun e => e.symm) (fun e => by rw [e]; rfl))
          rw [← HTk.out] at hrow5
          have hnx5 : Below wB.heap.size wB w5 := ((HB.out.trans (q2.mono hsr)).alloc (by omega) _).grown hgrow5 (by simp; omega) (fun j hj => (HR.out.own.lt j hj).1)
          have HF := Lib.hid (And.intro hrow5 hnx5)
          clear hown5 hgrow5 hat5 hrow5 hnx5 ho2 q2 hown2 HZ HTk hi hz0 hz1 hz2
          go_wp2
          go_roundw
          case rel => exact ⟨k + 1, _, _, _, _, by omega, by go_num, rfl, Lib.hid HF.out.1, Lib.hid HF.out.2⟩
          case measure => simp [intOf]; omega
        · have hkl : ¬ (k : Int) < (ne : Int) := by omega
          have hkn : k = ne := by omega
          have HP := Lib.hid HR.out
          have hall : (p.es.take k).map putEn = p.es.map putEn := by have h8 := HX.out.2.2.2; rw [show k = p.es.length by omega, List.take_length]
          rw [hall] at HP
          clear hkn hall HR
          go_wp2_with fail
          have HP2 := HP
          have HPA := Lib.hid (HP1.out.below HB.out)
          clear HP HP1 HS2
          have hbA := HB1.out.trans (HB.out.mono HB1.out.size)
          have HA5 : Hid (∀ u, Below wr.heap.size wr u → Calls Tryd.prog 38 #[.slice a71 n71 c71] u fun e w' => ∃ a k c, e = .returned (.slice a k c) ∧ OwnM w' u.heap.size (.slice a k c) (putList (p.ms.map layM)) ∧ Below u.heap.size u w') := Lib.hid (fun u hu => refList_val a71 c71 (p.ms.map layM) u ((HPA.out.below hu).parts).2 (by rw [List.length_map]; have := HX.out.2.2.2; omega) (by have := HX.out.2.1; omega) n71 ((HPA.out.below hu).parts).1)
          have HA6 : Hid (∀ u, Below wr.heap.size wr u → Calls Tryd.prog 38 #[.slice a7 n7 c7] u fun e w' => ∃ a k c, e = .returned (.slice a k c) ∧ OwnM w' u.heap.size (.slice a k c) (putList (p.es.map putEn)) ∧ Below u.heap.size u w') := Lib.hid (fun u hu => refList_val a7 c7 (p.es.map putEn) u ((HP2.out.below hu).parts).2 (by rw [List.length_map]; have := HX.out.2.2.2; omega) (by have := HX.out.2.2.1; omega) n7 ((HP2.out.below hu).parts).1)
          have hb2 := HSw.out.blk
          have HD0 := Lib.hid (Below.refl wr.heap.size wr)
          have HLW := Lib.hid HSw.out.low
          clear HPA HP2 HSw HB HB1 hbA x4 x5 HYM HYE HI HLE hlt hkl
          skip
          refine wp_region_any (by kernel_rfl) ?_
          change wpAny _ _ _ _ _ _ _ (World.drew _)
          have hS : (fun w' : World => PkBlk w' W.heap.size p.k p.f p.a p.q am nm cm ae ne ce) wr.drew := hb2
          refine wpAny_of_held (S := fun w' => PkBlk w' W.heap.size p.k p.f p.a p.q am nm cm ae ne ce) _ _ _ _ ?_
          clear hb2
          refine wpAnyH_takeE (i := 0) (some 39) (v := ?_) rfl rfl (by as_aux_lemma => kernel_rfl) (by as_aux_lemma => kernel_rfl) (by as_aux_lemma => kernel_rfl) (fun _ _ _ h => h) (Or.inl ⟨by kernel_rfl, ?_⟩) hS ?_
          rotate_left
          · intro w hSw; have c0 := hSw.c0; have c1 := hSw.c1; have c2 := hSw.c2; have c3 := hSw.c3; have c4 := hSw.c4; have c5 := hSw.c5; go_simp
            first | done | with_reducible rfl
          refine wpAnyH_takeE (i := 1) (some 40) (v := ?_) rfl rfl (by as_aux_lemma => kernel_rfl) (by as_aux_lemma => kernel_rfl) (by as_aux_lemma => kernel_rfl) (fun _ _ _ h => h) (Or.inl ⟨by kernel_rfl, ?_⟩) hS ?_
          rotate_left
          · intro w hSw; have c0 := hSw.c0; have c1 := hSw.c1; have c2 := hSw.c2; have c3 := hSw.c3; have c4 := hSw.c4; have c5 := hSw.c5; go_simp
            first | done | with_reducible rfl
          refine wpAnyH_takeE (i := 2) (some 41) (v := ?_) rfl rfl (by as_aux_lemma => kernel_rfl) (by as_aux_lemma => kernel_rfl) (by as_aux_lemma => kernel_rfl) (fun _ _ _ h => h) (Or.inl ⟨by kernel_rfl, ?_⟩) hS ?_
          rotate_left
          · intro w hSw; have c0 := hSw.c0; have c1 := hSw.c1; have c2 := hSw.c2; have c3 := hSw.c3; have c4 := hSw.c4; have c5 := hSw.c5; go_simp
            first | done | with_reducible rfl
          refine wpAnyH_takeE (i := 4) (some 43) (v := ?_) rfl rfl (by as_aux_lemma => kernel_rfl) (by as_aux_lemma => kernel_rfl) (by as_aux_lemma => kernel_rfl) (fun _ _ _ h => h) (Or.inl ⟨by kernel_rfl, ?_⟩) hS ?_
          rotate_left
          · intro w hSw; have c0 := hSw.c0; have c1 := hSw.c1; have c2 := hSw.c2; have c3 := hSw.c3; have c4 := hSw.c4; have c5 := hSw.c5; go_simp
            first | done | with_reducible rfl
          refine wpAnyH_takeE (i := 5) (some 44) (v := ?_) rfl rfl (by as_aux_lemma => kernel_rfl) (by as_aux_lemma => kernel_rfl) (by as_aux_lemma => kernel_rfl) (fun _ _ _ h => h) (Or.inl ⟨by kernel_rfl, ?_⟩) hS ?_
          rotate_left
          · intro w hSw; have c0 := hSw.c0; have c1 := hSw.c1; have c2 := hSw.c2; have c3 := hSw.c3; have c4 := hSw.c4; have c5 := hSw.c5; go_simp
            first | done | with_reducible rfl
          refine wpAnyH_takeE (i := 6) (some 45) (v := ?_) rfl rfl (by as_aux_lemma => kernel_rfl) (by as_aux_lemma => kernel_rfl) (by as_aux_lemma => kernel_rfl) (fun _ _ _ h => h) (Or.inl ⟨by kernel_rfl, ?_⟩) hS ?_
          rotate_left
          · intro w hSw; have c0 := hSw.c0; have c1 := hSw.c1; have c2 := hSw.c2; have c3 := hSw.c3; have c4 := hSw.c4; have c5 := hSw.c5; go_simp
            first | done | with_reducible rfl
          refine wpAnyH_takeE (i := 8) (some 47) (v := ?_) rfl rfl (by as_aux_lemma => kernel_rfl) (by as_aux_lemma => kernel_rfl) (by as_aux_lemma => kernel_rfl) (fun _ _ _ h => h) (Or.inl ⟨by kernel_rfl, ?_⟩) hS ?_
          rotate_left
          · intro w hSw; have c0 := hSw.c0; have c1 := hSw.c1; have c2 := hSw.c2; have c3 := hSw.c3; have c4 := hSw.c4; have c5 := hSw.c5; go_simp
            first | done | with_reducible rfl
          refine wpAnyH_takeE (i := 9) (some 48) (v := ?_) rfl rfl (by as_aux_lemma => kernel_rfl) (by as_aux_lemma => kernel_rfl) (by as_aux_lemma => kernel_rfl) (fun _ _ _ h => h) (Or.inl ⟨by kernel_rfl, ?_⟩) hS ?_
          rotate_left
          · intro w hSw; have c0 := hSw.c0; have c1 := hSw.c1; have c2 := hSw.c2; have c3 := hSw.c3; have c4 := hSw.c4; have c5 := hSw.c5; go_simp
            first | done | with_reducible rfl
          refine wpAnyH_takeE (i := 10) (some 49) (v := ?_) rfl rfl (by as_aux_lemma => kernel_rfl) (by as_aux_lemma => kernel_rfl) (by as_aux_lemma => kernel_rfl) (fun _ _ _ h => h) (Or.inl ⟨by kernel_rfl, ?_⟩) hS ?_
          rotate_left
          · intro w hSw; have c0 := hSw.c0; have c1 := hSw.c1; have c2 := hSw.c2; have c3 := hSw.c3; have c4 := hSw.c4; have c5 := hSw.c5; go_simp
            first | done | with_reducible rfl
          refine wpAnyH_takeE (i := 12) (some 51) (v := ?_) rfl rfl (by as_aux_lemma => kernel_rfl) (by as_aux_lemma => kernel_rfl) (by as_aux_lemma => kernel_rfl) (fun _ _ _ h => h) (Or.inl ⟨by kernel_rfl, ?_⟩) hS ?_
          rotate_left
          · intro w hSw; have c0 := hSw.c0; have c1 := hSw.c1; have c2 := hSw.c2; have c3 := hSw.c3; have c4 := hSw.c4; have c5 := hSw.c5; go_simp
            first | done | with_reducible rfl
          refine wpAnyH_takeE (i := 13) (some 52) (v := ?_) rfl rfl (by as_aux_lemma => kernel_rfl) (by as_aux_lemma => kernel_rfl) (by as_aux_lemma => kernel_rfl) (fun _ _ _ h => h) (Or.inl ⟨by kernel_rfl, ?_⟩) hS ?_
          rotate_left
          · intro w hSw; have c0 := hSw.c0; have c1 := hSw.c1; have c2 := hSw.c2; have c3 := hSw.c3; have c4 := hSw.c4; have c5 := hSw.c5; go_simp
            first | done | with_reducible rfl
          refine wpAnyH_takeE (i := 15) (some 54) (v := ?_) rfl rfl (by as_aux_lemma => kernel_rfl) (by as_aux_lemma => kernel_rfl) (by as_aux_lemma => kernel_rfl) (fun _ _ _ h => h) (Or.inl ⟨by kernel_rfl, ?_⟩) hS ?_
          rotate_left
          · intro w hSw; skip; go_simp
            first | done | with_reducible rfl
          refine wpAnyH_takeE (i := 17) (some 56) (v := ?_) rfl rfl (by as_aux_lemma => kernel_rfl) (by as_aux_lemma => kernel_rfl) (by as_aux_lemma => kernel_rfl) (fun _ _ _ h => h) (Or.inl ⟨by kernel_rfl, ?_⟩) hS ?_
          rotate_left
          · intro w hSw; skip; go_simp
            first | done | with_reducible rfl
          refine wpAnyH_ready (rs := [3]) (by as_aux_lemma => kernel_rfl) (by simp) ?_
          refine AllReadyH.cons rfl (fun K hK => ?_) AllReadyH.nil
          go_simp
          go_wp2_with (go_at_call 40; refine (HA1.out _).mono ?_; rintro e w3 ⟨a3, k3, c3, rfl, ho3, -, hb3⟩)
          refine hK.out _ _ ?_ (fun hS => ?_)
          · exact hS.on hb3
          clear hK K
          have HD3 := Lib.hid (show Below wr.heap.size wr w3 from (HD0.out.drew).trans (hb3.mono (HD0.out.drew).size))
          have HO3 := Lib.hid ho3
          have HB3 := Lib.hid hb3
          clear ho3 hb3 HA1
          refine wpAnyH_ready (rs := [7]) (by as_aux_lemma => kernel_rfl) (by simp) ?_
          refine AllReadyH.cons rfl (fun K hK => ?_) AllReadyH.nil
          go_simp
          go_wp2_with (go_at_call 40; refine (HA2.out _).mono ?_; rintro e w4 ⟨a4, k4, c4, rfl, ho4, -, hb4⟩)
          refine hK.out _ _ ?_ (fun hS => ?_)
          · exact hS.on hb4
          clear hK K
          have HD4 := Lib.hid (show Below wr.heap.size wr w4 from (HD3.out).trans (hb4.mono (HD3.out).size))
          have HO4 := Lib.hid ho4
          have HB4 := Lib.hid hb4
          clear ho4 hb4 HA2
          refine wpAnyH_ready (rs := [11]) (by as_aux_lemma => kernel_rfl) (by simp) ?_
          refine AllReadyH.cons rfl (fun K hK => ?_) AllReadyH.nil
          go_simp
          go_wp2_with (go_at_call 40; refine (HA3.out _).mono ?_; rintro e w5 ⟨a5, k5, c5, rfl, ho5, -, hb5⟩)
          refine hK.out _ _ ?_ (fun hS => ?_)
          · exact hS.on hb5
          clear hK K
          have HD5 := Lib.hid (show Below wr.heap.size wr w5 from (HD4.out).trans (hb5.mono (HD4.out).size))
          have HO5 := Lib.hid ho5
          have HB5 := Lib.hid hb5
          clear ho5 hb5 HA3
          refine wpAnyH_ready (rs := [14]) (by as_aux_lemma => kernel_rfl) (by simp) ?_
          refine AllReadyH.cons rfl (fun K hK => ?_) AllReadyH.nil
          go_simp
          go_wp2_with (go_at_call 40; refine (HA4.out _).mono ?_; rintro e w6 ⟨a6, k6, c6, rfl, ho6, -, hb6⟩)
          refine hK.out _ _ ?_ (fun hS => ?_)
          · exact hS.on hb6
          clear hK K
          have HD6 := Lib.hid (show Below wr.heap.size wr w6 from (HD5.out).trans (hb6.mono (HD5.out).size))
          have HO6 := Lib.hid ho6
          have HB6 := Lib.hid hb6
          clear ho6 hb6 HA4
          refine wpAnyH_ready (rs := [16]) (by as_aux_lemma => kernel_rfl) (by simp) ?_
          refine AllReadyH.cons rfl (fun K hK => ?_) AllReadyH.nil
          go_simp
          go_wp2_with (go_at_call 38; refine (HA5.out _ (HD6.out)).mono ?_; rintro e w7 ⟨a7, k7, c7, rfl, ho7, hb7⟩)
          refine hK.out _ _ ?_ (fun hS => ?_)
          · exact hS.on hb7
          clear hK K
          have HD7 := Lib.hid (show Below wr.heap.size wr w7 from (HD6.out).trans (hb7.mono (HD6.out).size))
          have HO7 := Lib.hid ho7.src
          have HB7 := Lib.hid hb7
          clear ho7 hb7 HA5
          refine wpAnyH_ready (rs := [18]) (by as_aux_lemma => kernel_rfl) (by simp) ?_
          refine AllReadyH.cons rfl (fun K hK => ?_) AllReadyH.nil
          go_simp
          go_wp2_with (go_at_call 38; refine (HA6.out _ (HD7.out)).mono ?_; rintro e w8 ⟨a8, k8, c8, rfl, ho8, hb8⟩)
          refine hK.out _ _ ?_ (fun hS => ?_)
          · exact hS.on hb8
          clear hK K
          have HD8 := Lib.hid (show Below wr.heap.size wr w8 from (HD7.out).trans (hb8.mono (HD7.out).size))
          have HO8 := Lib.hid ho8.src
          have HB8 := Lib.hid hb8
          clear ho8 hb8 HA6
          refine wpAnyH_ready (rs := [19]) (by as_aux_lemma => kernel_rfl) (by simp) ?_
          refine AllReadyH.cons rfl (fun K hK => ?_) AllReadyH.nil
          go_simp
          go_wp2_with (fail)
          refine hK.out _ _ ?_ (fun hS => ?_)
          · exact hS.on ((Below.refl w8.heap.size w8).alloc (Nat.le_refl _) _)
          clear hK K
          have hbb : Below w8.heap.size w8 (w8.alloc (.cells #[.slice (some a3) k3 c3, .slice (some a4) k4 c4, .slice (some a5) k5 c5, .slice (some a6) k6 c6, .slice a7 k7 c7, .slice a8 k8 c8] 30)) := (Below.refl _ _).alloc (Nat.le_refl _) _
          have e3 := (((((HO3.out.below HB4.out (Nat.le_refl _)).below HB5.out (Nat.le_refl _)).below HB6.out (Nat.le_refl _)).below HB7.out (Nat.le_refl _)).below HB8.out (Nat.le_refl _)).below hbb (Nat.le_refl _)
          have e4 := ((((HO4.out.below HB5.out (Nat.le_refl _)).below HB6.out (Nat.le_refl _)).below HB7.out (Nat.le_refl _)).below HB8.out (Nat.le_refl _)).below hbb (Nat.le_refl _)
          have e5 := (((HO5.out.below HB6.out (Nat.le_refl _)).below HB7.out (Nat.le_refl _)).below HB8.out (Nat.le_refl _)).below hbb (Nat.le_refl _)
          have e6 := ((HO6.out.below HB7.out (Nat.le_refl _)).below HB8.out (Nat.le_refl _)).below hbb (Nat.le_refl _)
          have e7 := (HO7.out.below HB8.out (Nat.le_refl _)).below hbb (Nat.le_refl _)
          have e8 := HO8.out.below hbb (Nat.le_refl _)
          have n0 := newE w8 (.cells #[.slice (some a3) k3 c3, .slice (some a4) k4 c4, .slice (some a5) k5 c5, .slice (some a6) k6 c6, .slice a7 k7 c7, .slice a8 k8 c8] 30)
          have hp : PartsAt (w8.alloc (.cells #[.slice (some a3) k3 c3, .slice (some a4) k4 c4, .slice (some a5) k5 c5, .slice (some a6) k6 c6, .slice a7 k7 c7, .slice a8 k8 c8] 30)) (some ⟨w8.heap.size, 0, none⟩) (partsPk p) := fun _ => ⟨_, 0, rfl, fun i hi => by
            match i, hi with
            | 0, _ => exact ⟨_, cellE n0, e3⟩
            | 1, _ => exact ⟨_, cellE n0, e4⟩
            | 2, _ => exact ⟨_, cellE n0, e5⟩
            | 3, _ => exact ⟨_, cellE n0, e6⟩
            | 4, _ => exact ⟨_, cellE n0, e7⟩
            | 5, _ => exact ⟨_, cellE n0, e8⟩⟩
          have HL := Lib.hid (refList_val (some ⟨w8.heap.size, 0, none⟩) 6 _ _ hp (by simp [partsPk]) (by have := HX.out.1; omega) 6 rfl)
          have HN := Lib.hid ((HLW.out.trans (HD8.out.mono HLW.out.size)).trans (hbb.mono (HLW.out.trans (HD8.out.mono HLW.out.size)).size))
          have HZ := Lib.hid (show W.heap.size ≤ (w8.alloc (.cells #[.slice (some a3) k3 c3, .slice (some a4) k4 c4, .slice (some a5) k5 c5, .slice (some a6) k6 c6, .slice a7 k7 c7, .slice a8 k8 c8] 30)).heap.size from HN.out.size)
          clear hp e3 e4 e5 e6 e7 e8 hbb n0 HO3 HB3 HD3 HO4 HB4 HD4 HO5 HB5 HD5 HO6 HB6 HD6 HO7 HB7 HD7 HO8 HB8 HD8 HD0 HLW
          refine wpAnyH_ready (rs := [20]) (by as_aux_lemma => kernel_rfl) (by simp) ?_
          refine AllReadyH.cons rfl (fun K hK => ?_) AllReadyH.nil
          go_simp
          go_wp2_with (go_at_call 38; refine HL.out.mono ?_; rintro e w9 ⟨a9, k9, c9, rfl, ho9, hb9⟩)
          refine hK.out _ _ ?_ (fun hS => ?_)
          · exact hS.on hb9
          clear hK K
          refine wpAnyH_takeE (i := 21) (some 2) (v := ?_) rfl rfl (by as_aux_lemma => kernel_rfl) (by as_aux_lemma => kernel_rfl) (by as_aux_lemma => kernel_rfl) (fun _ _ _ h => h) (Or.inl ⟨by kernel_rfl, ?_⟩) hS ?_
          rotate_left
          · intro w hSw; skip; go_simp
            first | done | with_reducible rfl
          refine wpAnyH_done (by kernel_rfl) ?_ _
          have ho' : OwnM w9 W.heap.size (.slice a9 k9 c9) (layPk p) := ownM_base ho9 HZ.out
          have HF := Lib.hid (And.intro ho' (HN.out.trans (hb9.mono HZ.out)))
          clear ho9 ho' hb9 hS HL HN HZ
          go_wp2
          go_ret
          exact ⟨a9, k9, c9, rfl, HF.out.1, HF.out.2⟩

end Go.Proofs.YtchhdffehkcecaaDoor
