/-
  What Member, layList and lay of package packet lay.
-/
import Derived.Test.YtchhdffehkcecaaDoorP1
import Derived.Test.YtchhdffehkcecaaDoorE4
import Derived.Test.YtchhdffehkcecaaDoorRow
import Derived.Test.YtchhdffehkcecaaDoorPlain
import Derived.Laws.MakeOwn
import Derived.Deep.AppendLies
namespace Go.Proofs.YtchhdffehkcecaaDoor
open Go Go.RowKit

/-- A member's numbers are those of their types. -/
def Mem.Ok (m : Mem) : Prop := (0 ≤ m.n ∧ m.n ≤ 65535) ∧ (0 ≤ m.s ∧ m.s ≤ 255) ∧ (-9223372036854775808 ≤ m.i ∧ m.i ≤ 9223372036854775807)
def partsM (m : Mem) : List (List UInt8) := [putInt m.n, putInt m.s, putInt m.i]
/-- The bytes of a member. -/
def layM (m : Mem) : List UInt8 := putList (partsM m)
theorem putInt_len (n : Int) (h0 : -9223372036854775808 ≤ n) (h1 : n ≤ 9223372036854775807) : (putInt n).length ≤ 22 := by
  have := itoa_len20 n h0 h1
  simp only [putInt, List.length_cons, List.length_append, List.length_nil]
  omega
theorem partsM_len (m : Mem) (h : m.Ok) : (partsM m).flatten.length ≤ 66 := by
  have h1 := putInt_len m.n (by have := h.1; omega) (by have := h.1; omega)
  have h2 := putInt_len m.s (by have := h.2.1; omega) (by have := h.2.1; omega)
  have h3 := putInt_len m.i h.2.2.1 h.2.2.2
  simp only [partsM, List.flatten_cons, List.flatten_nil, List.length_append, List.length_nil]
  omega
theorem putList_lenP (ls : List (List UInt8)) : (putList ls).length = ls.flatten.length + 2 := by simp [putList]
theorem layM_len (m : Mem) (h : m.Ok) : (layM m).length ≤ 68 := by
  unfold layM
  rw [putList_lenP]
  have := partsM_len m h
  omega
theorem putEn_len (x : Ent) (h : x.Ok) (hk : x.k.size ≤ 9223372036854775807) (hv : x.v.size ≤ 9223372036854775807) : (partsE9 x).flatten.length ≤ x.k.size + x.v.size + 108 := by
  have h1 := putInt_len x.t h.1.1 h.1.2
  have h2 := putInt_len x.o (by have := h.2.1; omega) (by have := h.2.1; omega)
  have h3 := putInt_len x.u h.2.2.1 h.2.2.2
  have z1 : x.k.data.toList.length = x.k.size := rfl
  have z2 : x.v.data.toList.length = x.v.size := rfl
  have h4 := itoa_len20 (x.k.data.toList.length : Int) (by omega) (by omega)
  have h5 := itoa_len20 (x.v.data.toList.length : Int) (by omega) (by omega)
  simp only [partsE9, putText, List.flatten_cons, List.flatten_nil, List.length_append, List.length_cons, List.length_nil]
  omega

set_option maxRecDepth 100000 in
set_option maxHeartbeats 4000000 in
theorem pMember_any (m : Mem) (hm : m.Ok) (B : Nat) (W : World) (hB : B ≤ W.heap.size) (hv : TabE B W) :
    Calls Tryd.prog 20 #[.agg #[.int .u16 m.n, .int .u8 m.s, .int .i64 m.i]] W fun e w' => ∃ a k c, e = .returned (.slice a k c) ∧ Own w' W.heap.size (.slice a k c) (layM m) ∧ Below W.heap.size W w' := by
  have b1 := MBlk.new W m
  have d1 := (Below.refl _ W).alloc (Nat.le_refl _) (.cells #[.int .u16 m.n, .int .u8 m.s, .int .i64 m.i] 45)
  have HZ := Lib.hid (And.intro b1 d1)
  have HX := Lib.hid (And.intro hm (And.intro hB hv))
  have w0 : IntKind.i64.wrap m.n = m.n := by rw [IntKind.wrap_i64]; have := hm.1; omega
  have w1 : IntKind.i64.wrap m.s = m.s := by rw [IntKind.wrap_i64]; have := hm.2.1; omega
  clear b1 d1 hm hB hv
  go_enter Tryd.func20, Tryd.ntmps20
  go_wp2_with fail
  obtain ⟨b2, d2⟩ := HZ.out
  generalize hw2 : (W.alloc (.cells #[.int .u16 m.n, .int .u8 m.s, .int .i64 m.i] 45)) = w2 at *
  clear hw2 HZ
  have HD := Lib.hid d2
  obtain ⟨hm, hB, hv⟩ := HX.out
  have q2 : Below W.heap.size W w2.drew := d2.drew
  have v2 := hv.on (q2.mono hB)
  have HA1 := Lib.hid (Int_valT m.n (by have := hm.1; omega) (by have := hm.1; omega) B w2.drew (Nat.le_trans hB d2.size) v2)
  clear hm hB hv v2 q2 d2
  refine wp_region_any (by kernel_rfl) ?_
  change wpAny _ _ _ _ _ _ _ (World.drew _)
  have hS : (fun w' : World => MBlk w' W.heap.size m) w2.drew := b2
  refine wpAny_of_held (S := fun w' => MBlk w' W.heap.size m) _ _ _ _ ?_
  clear b2
  refine wpAnyH_takeE (i := 0) (some 3) (v := ?_) rfl rfl (by as_aux_lemma => kernel_rfl) (by as_aux_lemma => kernel_rfl) (by as_aux_lemma => kernel_rfl) (fun _ _ _ h => h) (Or.inl ⟨by kernel_rfl, ?_⟩) hS ?_
  rotate_left
  · intro w hSw; have c0 := hSw.c0; have c1 := hSw.c1; have c2 := hSw.c2; go_simp
    first | done | with_reducible rfl
  refine wpAnyH_takeE (i := 1) (some 4) (v := ?_) rfl rfl (by as_aux_lemma => kernel_rfl) (by as_aux_lemma => kernel_rfl) (by as_aux_lemma => kernel_rfl) (fun _ _ _ h => h) (Or.inl ⟨by kernel_rfl, ?_⟩) hS ?_
  rotate_left
  · intro w hSw; have c0 := hSw.c0; have c1 := hSw.c1; have c2 := hSw.c2; go_simp
    first | done | with_reducible rfl
  refine wpAnyH_takeE (i := 2) (some 5) (v := ?_) rfl rfl (by as_aux_lemma => kernel_rfl) (by as_aux_lemma => kernel_rfl) (by as_aux_lemma => kernel_rfl) (fun _ _ _ h => h) (Or.inl ⟨by kernel_rfl, ?_⟩) hS ?_
  rotate_left
  · intro w hSw; have c0 := hSw.c0; have c1 := hSw.c1; have c2 := hSw.c2; go_simp
    first | done | with_reducible rfl
  refine wpAnyH_takeE (i := 4) (some 7) (v := ?_) rfl rfl (by as_aux_lemma => kernel_rfl) (by as_aux_lemma => kernel_rfl) (by as_aux_lemma => kernel_rfl) (fun _ _ _ h => h) (Or.inl ⟨by kernel_rfl, ?_⟩) hS ?_
  rotate_left
  · intro w hSw; have c0 := hSw.c0; have c1 := hSw.c1; have c2 := hSw.c2; go_simp
    first | done | with_reducible rfl
  refine wpAnyH_takeE (i := 5) (some 8) (v := ?_) rfl rfl (by as_aux_lemma => kernel_rfl) (by as_aux_lemma => kernel_rfl) (by as_aux_lemma => kernel_rfl) (fun _ _ _ h => h) (Or.inl ⟨by kernel_rfl, ?_⟩) hS ?_
  rotate_left
  · intro w hSw; have c0 := hSw.c0; have c1 := hSw.c1; have c2 := hSw.c2; go_simp
    first | done | with_reducible rfl
  refine wpAnyH_takeE (i := 6) (some 9) (v := ?_) rfl rfl (by as_aux_lemma => kernel_rfl) (by as_aux_lemma => kernel_rfl) (by as_aux_lemma => kernel_rfl) (fun _ _ _ h => h) (Or.inl ⟨by kernel_rfl, ?_⟩) hS ?_
  rotate_left
  · intro w hSw; have c0 := hSw.c0; have c1 := hSw.c1; have c2 := hSw.c2; go_simp
    first | done | with_reducible rfl
  refine wpAnyH_takeE (i := 8) (some 11) (v := ?_) rfl rfl (by as_aux_lemma => kernel_rfl) (by as_aux_lemma => kernel_rfl) (by as_aux_lemma => kernel_rfl) (fun _ _ _ h => h) (Or.inl ⟨by kernel_rfl, ?_⟩) hS ?_
  rotate_left
  · intro w hSw; have c0 := hSw.c0; have c1 := hSw.c1; have c2 := hSw.c2; go_simp
    first | done | with_reducible rfl
  refine wpAnyH_takeE (i := 9) (some 12) (v := ?_) rfl rfl (by as_aux_lemma => kernel_rfl) (by as_aux_lemma => kernel_rfl) (by as_aux_lemma => kernel_rfl) (fun _ _ _ h => h) (Or.inl ⟨by kernel_rfl, ?_⟩) hS ?_
  rotate_left
  · intro w hSw; have c0 := hSw.c0; have c1 := hSw.c1; have c2 := hSw.c2; go_simp
    first | done | with_reducible rfl
  refine wpAnyH_ready (rs := [3]) (by as_aux_lemma => kernel_rfl) (by simp) ?_
  refine AllReadyH.cons rfl (fun K hK => ?_) AllReadyH.nil
  go_simp
  go_wp2_with (go_at_call 44; refine HA1.out.mono ?_; rintro e w3 ⟨a3, k3, c3, rfl, ho3, hb3⟩)
  refine hK.out _ _ ?_ (fun hS => ?_)
  · exact hS.on hb3
  clear hK K
  obtain ⟨hm, hB, hv⟩ := HX.out
  have d3 : Below W.heap.size W w3 := HD.out.drew.trans (hb3.mono (HD.out.drew).size)
  have v3 := hv.on (d3.mono hB)
  have HD3 := Lib.hid d3
  have HO3 := Lib.hid ho3
  have HB3 := Lib.hid hb3
  have HA2 := Lib.hid (Int_valT m.s (by have := hm.2.1; omega) (by have := hm.2.1; omega) B w3 (Nat.le_trans hB d3.size) v3)
  clear hm hB hv v3 d3 ho3 hb3 HA1
  refine wpAnyH_ready (rs := [7]) (by as_aux_lemma => kernel_rfl) (by simp) ?_
  refine AllReadyH.cons rfl (fun K hK => ?_) AllReadyH.nil
  go_simp
  go_wp2_with (go_at_call 44; refine HA2.out.mono ?_; rintro e w4 ⟨a4, k4, c4, rfl, ho4, hb4⟩)
  refine hK.out _ _ ?_ (fun hS => ?_)
  · exact hS.on hb4
  clear hK K
  obtain ⟨hm, hB, hv⟩ := HX.out
  have d4 : Below W.heap.size W w4 := HD3.out.trans (hb4.mono (HD3.out).size)
  have v4 := hv.on (d4.mono hB)
  have HD4 := Lib.hid d4
  have HO4 := Lib.hid ho4
  have HB4 := Lib.hid hb4
  have HA3 := Lib.hid (Int_valT m.i hm.2.2.1 hm.2.2.2 B w4 (Nat.le_trans hB d4.size) v4)
  clear hm hB hv v4 d4 ho4 hb4 HA2
  refine wpAnyH_ready (rs := [10]) (by as_aux_lemma => kernel_rfl) (by simp) ?_
  refine AllReadyH.cons rfl (fun K hK => ?_) AllReadyH.nil
  go_simp
  go_wp2_with (go_at_call 44; refine HA3.out.mono ?_; rintro e w5 ⟨a5, k5, c5, rfl, ho5, hb5⟩)
  refine hK.out _ _ ?_ (fun hS => ?_)
  · exact hS.on hb5
  clear hK K
  obtain ⟨hm, hB, hv⟩ := HX.out
  have d5 : Below W.heap.size W w5 := HD4.out.trans (hb5.mono (HD4.out).size)
  have v5 := hv.on (d5.mono hB)
  have HD5 := Lib.hid d5
  have HO5 := Lib.hid ho5
  have HB5 := Lib.hid hb5
  clear hm hB hv v5 d5 ho5 hb5 HA3
  refine wpAnyH_ready (rs := [11]) (by as_aux_lemma => kernel_rfl) (by simp) ?_
  refine AllReadyH.cons rfl (fun K hK => ?_) AllReadyH.nil
  go_simp
  go_wp2_with (fail)
  refine hK.out _ _ ?_ (fun hS => ?_)
  · exact hS.on ((Below.refl w5.heap.size w5).alloc (Nat.le_refl _) _)
  clear hK K
  have hbb : Below w5.heap.size w5 (w5.alloc (.cells #[.slice a3 k3 c3, .slice a4 k4 c4, .slice a5 k5 c5] 30)) := (Below.refl _ _).alloc (Nat.le_refl _) _
  have e3 := ((HO3.out.src.below HB4.out (Nat.le_refl _)).below HB5.out (Nat.le_refl _)).below hbb (Nat.le_refl _)
  have e4 := (HO4.out.src.below HB5.out (Nat.le_refl _)).below hbb (Nat.le_refl _)
  have e5 := HO5.out.src.below hbb (Nat.le_refl _)
  have n0 := newE w5 (.cells #[.slice a3 k3 c3, .slice a4 k4 c4, .slice a5 k5 c5] 30)
  have hp : PartsAt (w5.alloc (.cells #[.slice a3 k3 c3, .slice a4 k4 c4, .slice a5 k5 c5] 30)) (some ⟨w5.heap.size, 0, none⟩) (partsM m) := fun _ => ⟨_, 0, rfl, fun i hi => by
    match i, hi with
    | 0, _ => exact ⟨_, cellE n0, e3⟩
    | 1, _ => exact ⟨_, cellE n0, e4⟩
    | 2, _ => exact ⟨_, cellE n0, e5⟩⟩
  have HL := Lib.hid (List_val (some ⟨w5.heap.size, 0, none⟩) 3 _ _ hp (by simp [partsM]) (by have := partsM_len m HX.out.1; omega) 3 rfl)
  have HN := Lib.hid (HD5.out.trans (hbb.mono HD5.out.size))
  have HZ := Lib.hid (show W.heap.size ≤ (w5.alloc (.cells #[.slice a3 k3 c3, .slice a4 k4 c4, .slice a5 k5 c5] 30)).heap.size from HN.out.size)
  clear hp e3 e4 e5 hbb n0 HO3 HB3 HD3 HO4 HB4 HD4 HO5 HB5 HD5 HD
  refine wpAnyH_ready (rs := [12]) (by as_aux_lemma => kernel_rfl) (by simp) ?_
  refine AllReadyH.cons rfl (fun K hK => ?_) AllReadyH.nil
  go_simp
  go_wp2_with (go_at_call 43; refine HL.out.mono ?_; rintro e w6 ⟨a6, k6, c6, rfl, ho6, hb6⟩)
  refine hK.out _ _ ?_ (fun hS => ?_)
  · exact hS.on hb6
  clear hK K
  refine wpAnyH_takeE (i := 13) (some 2) (v := ?_) rfl rfl (by as_aux_lemma => kernel_rfl) (by as_aux_lemma => kernel_rfl) (by as_aux_lemma => kernel_rfl) (fun _ _ _ h => h) (Or.inl ⟨by kernel_rfl, ?_⟩) hS ?_
  rotate_left
  · intro w hSw; skip; go_simp
    first | done | with_reducible rfl
  refine wpAnyH_done (by kernel_rfl) ?_ _
  have ho' : Own w6 W.heap.size (.slice a6 k6 c6) (layM m) := ownE_base ho6 HZ.out
  have HF := Lib.hid (And.intro ho' (HN.out.trans (hb6.mono HZ.out)))
  clear ho6 ho' hb6 hS HL HN HZ
  go_wp2
  go_ret
  exact ⟨a6, k6, c6, rfl, HF.out.1, HF.out.2⟩
set_option maxRecDepth 100000 in
set_option maxHeartbeats 4000000 in
theorem pLayM_any (q : Option Addr) (c : Nat) (l : List Mem) (W : World) (he : MemsAt W q l) (n : Nat) (hn : n = l.length) (hl : n ≤ 100000) (hok : ∀ x ∈ l, x.Ok) (hf : (l.map layM).flatten.length ≤ 140737488355000) (B : Nat) (hB : B ≤ W.heap.size) (hv : TabE B W) :
    Calls Tryd.prog 48 #[.slice q n c, .func (.func 20) #[] #[]] W fun e w' => ∃ a k c, e = .returned (.slice a k c) ∧ Own w' W.heap.size (.slice a k c) (putList (l.map layM)) ∧ Below W.heap.size W w' := by
  have eg : ∀ args w, (callFunc 20 args).run Tryd.prog w = .ok (.enter 20 args) w := enters_of Tryd.func20 (by kernel_rfl) rfl
  obtain ⟨i0, hi0, hz0⟩ : ∃ i, Tryd.prog.info? 30 = some i ∧ (i.zero, i.size, i.bytes) = (some (.slice none 0 0), 1, 24) := by
    have h := infoBytes
    cases hq : Tryd.prog.info? 30 with
    | none => rw [hq] at h; cases h
    | some i => rw [hq] at h; exact ⟨i, rfl, by simpa using h⟩
  simp only [Prod.mk.injEq] at hz0
  obtain ⟨hz0, hz1, hz2⟩ := hz0
  obtain ⟨w1, hmk, hown, hgr⟩ := run_makeSlice_owned (P := Tryd.prog) W W.heap.size 75 30 i0 (.slice none 0 0) 1 Tryd.underlying75 hi0 hz0 hz1 .i64 .i64 n (by omega) (by rw [hz2]; omega) (by unfold maxLen; omega) (Nat.le_refl _)
  have hb1 : Below W.heap.size W w1 := ⟨hgr.os, hgr.tape, hgr.output, hgr.size, fun k hk => hgr.block k hk (by simp)⟩
  have r0 : RowOf w1 W.heap.size (.slice (some ⟨W.heap.size, 0, none⟩) 0 n) [] [] := ⟨hown, rfl, fun _ hj => absurd hj (Nat.not_lt_zero _), fun _ hj => absurd hj (Nat.not_lt_zero _), fun _ hj => absurd hj (Nat.not_lt_zero _)⟩
  have HN := Lib.hid hn
  have HE := Lib.hid (And.intro he (And.intro hok (And.intro hf (And.intro hB hv))))
  have HR0 := Lib.hid r0
  have HB1 := Lib.hid hb1
  have HI := Lib.hid (And.intro hi0 (And.intro hz0 (And.intro hz1 hz2)))
  clear hn he hok hf hB hv r0 hb1 hown hgr hi0 hz0 hz1 hz2
  go_enter Tryd.func48, Tryd.ntmps48
  go_wp2
  clear hmk
  go_loopw [5, 13] (fun v i wr => ∃ (k : Nat) (a7 : Option Addr) (n7 c7 : Nat) (vs : List Value), k ≤ n ∧ i = .int .i64 k ∧ v = .slice a7 n7 c7 ∧ Hid (RowOf wr W.heap.size (.slice a7 n7 c7) vs ((l.take k).map layM)) ∧ Hid (Below W.heap.size W wr)) (fun _ i _ => n - (intOf i).toNat)
  case atStart => exact ⟨0, _, _, _, [], Nat.zero_le _, rfl, rfl, HR0, HB1⟩
  case round =>
    obtain ⟨k, a7, n7, c7, vs, hk, rfl, rfl, HR, HB⟩ := hrel
    clear HR0 HB1
    by_cases hlt : k < n
    · have hkl : (k : Int) < (n : Int) := by omega
      have hkx : k < l.length := by have := HN.out; omega
      obtain ⟨b, o, rfl, hb, c0, c1, c2⟩ := (HE.out.1.on HB.out).cells k hkx
      have qa := (Below.refl wr.heap.size wr).alloc (Nat.le_refl _) (.cells #[.int .u16 l[k].n, .int .u8 l[k].s, .int .i64 l[k].i] 45)
      have hda := HB.out.trans (qa.mono HB.out.size)
      have HC := Lib.hid (pMember_any l[k] (HE.out.2.1 _ (List.getElem_mem hkx)) B _ (Nat.le_trans HE.out.2.2.2.1 hda.size) (HE.out.2.2.2.2.on (hda.mono HE.out.2.2.2.1)))
      have HTk := Lib.hid (show (l.take (k + 1)).map layM = (l.take k).map layM ++ [layM l[k]] by rw [List.take_succ_eq_append_getElem hkx, List.map_append]; rfl)
      have HA := Lib.hid (And.intro qa hda)
      clear hb qa hda
      generalize l[k] = x at *
      clear hkx
      obtain ⟨nx, sx, ix⟩ := x
      dsimp only at c0 c1 c2 HC
      go_wp2_with (go_at_fn 20; refine HC.out.mono ?_; rintro e w2 ⟨a9, k9, c9, rfl, ho2, q2⟩; refine Hid.out ?_)
      refine Lib.hid ?_
      have hx2 : Own w2 wr.heap.size (.slice a9 k9 c9) (layM ⟨nx, sx, ix⟩) := ownE_base ho2 HA.out.1.size
      have hb2 : Below wr.heap.size wr w2 := HA.out.1.trans (q2.mono HA.out.1.size)
      have hown2 : (w2.alloc (.cells #[.slice a9 k9 c9] 30)).ownsRow W.heap.size 30 1 (.slice a7 n7 c7) vs.length vs := ((HR.out.below hb2).below ((Below.refl w2.heap.size w2).alloc (Nat.le_refl _) _)).own
      have hvl : vs.length = k := by have := HR.out.len; simp only [List.length_map, List.length_take] at this; have := HN.out; omega
      have HZ := Lib.hid (And.intro hx2 (And.intro hb2 (And.intro hown2 hvl)))
      clear c0 c1 c2 HC ho2 q2 hx2 hb2 hown2 hvl HA
      obtain ⟨hx2, hb2, hown2, hvl⟩ := HZ.out
      obtain ⟨hi, hz0, hz1, hz2⟩ := HI.out
      have hvb : vs.length ≤ 100000 := by omega
      have hs2 := hb2.size
      have hsr := HB.out.size
      clear hvl
      go_wp2_with (at_builtin; refine wpList_append_lies _ (by rfl) _ _ 75 (by rfl) W.heap.size 30 i0 (.slice none 0 0) 1 24 Tryd.underlying75 hi hz0 hz1 hz2 rfl (by decide) (.slice a7 n7 c7) vs.length vs (by rfl) hown2 ⟨w2.heap.size, 0, none⟩ 1 1 [.slice a9 k9 c9] (by rfl) rfl (World.news_of_block (cs := #[.slice a9 k9 c9]) (heap_alloc_new _ _)) (by intro u' hu'; simp at hu'; subst hu'; rfl) (by decide) (by unfold maxLen; omega) (by omega) (by simp; omega) (w2.heap.size + 1) (by simp) ?_; refine Hid.out ?_)
      refine Lib.hid ?_
      intro g5 cap w5 hown5 hgrow5 hat5 hlt5
      have hrow5 := HR.out.steps (ms := [layM ⟨nx, sx, ix⟩]) hb2 rfl (fun j hj => by
        match j, hj with
        | 0, _ => exact hx2.src) (by
        intro y hy q n' c' e
        simp only [List.mem_cons, List.not_mem_nil, or_false] at hy
        subst hy
        have := own_block_lt hx2 q n' c' e
        omega) hown5 hgrow5 (hat5.imp (fun e => e.symm) (fun e => by rw [e]; rfl))
      rw [← HTk.out] at hrow5
      have hnx5 : Below W.heap.size W w5 := ((HB.out.trans (hb2.mono hsr)).alloc (by omega) _).grown hgrow5 (by simp; omega) (fun j hj => (HR.out.own.lt j hj).1)
      have HF := Lib.hid (And.intro hrow5 hnx5)
      clear hown5 hgrow5 hat5 hrow5 hnx5 hx2 hb2 hown2 HZ HTk hi hz0 hz1 hz2
      go_wp2
      go_roundw
      case rel => exact ⟨k + 1, _, _, _, _, by omega, by go_num, rfl, Lib.hid HF.out.1, Lib.hid HF.out.2⟩
      case measure => simp [intOf]; omega
    · have hkl : ¬ (k : Int) < (n : Int) := by omega
      have hkn : k = n := by omega
      have HP := Lib.hid (HR.out.parts)
      have hall : (l.take k).map layM = l.map layM := by rw [hkn, HN.out, List.take_length]
      rw [hall] at HP
      have HL := Lib.hid (List_val a7 c7 (l.map layM) wr HP.out.2 (by rw [List.length_map, ← HN.out]; omega) HE.out.2.2.1 n7 HP.out.1)
      clear hkn hall hlt HP HR
      go_wp2_with (go_at_call 43; refine HL.out.mono ?_; rintro e w2 ⟨a2, k2, c2, rfl, ho2, q2⟩; refine Hid.out ?_)
      refine Lib.hid ?_
      have HQ := Lib.hid (And.intro (ownE_base ho2 HB.out.size) (HB.out.trans (q2.mono HB.out.size)))
      clear ho2 q2 HL
      go_wp2
      go_ret
      exact ⟨a2, k2, c2, rfl, HQ.out.1, HQ.out.2⟩
set_option maxRecDepth 100000 in
set_option maxHeartbeats 4000000 in
theorem pLayE_any (q : Option Addr) (c : Nat) (l : List Ent) (W : World) (he : EntsAt W q l) (n : Nat) (hn : n = l.length) (hl : n ≤ 100000) (hok : ∀ x ∈ l, x.Ok ∧ x.k.size ≤ 140737488351232 ∧ x.v.size ≤ 140737488351232 ∧ (partsE9 x).flatten.length ≤ 140737488355000) (hf : (l.map putEn).flatten.length ≤ 140737488355000) (B : Nat) (hB : B ≤ W.heap.size) (hv : TabE B W) :
    Calls Tryd.prog 49 #[.slice q n c, .func (.func 37) #[] #[]] W fun e w' => ∃ a k c, e = .returned (.slice a k c) ∧ Own w' W.heap.size (.slice a k c) (putList (l.map putEn)) ∧ Below W.heap.size W w' := by
  have eg : ∀ args w, (callFunc 37 args).run Tryd.prog w = .ok (.enter 37 args) w := enters_of Tryd.func37 (by kernel_rfl) rfl
  obtain ⟨i0, hi0, hz0⟩ : ∃ i, Tryd.prog.info? 30 = some i ∧ (i.zero, i.size, i.bytes) = (some (.slice none 0 0), 1, 24) := by
    have h := infoBytes
    cases hq : Tryd.prog.info? 30 with
    | none => rw [hq] at h; cases h
    | some i => rw [hq] at h; exact ⟨i, rfl, by simpa using h⟩
  simp only [Prod.mk.injEq] at hz0
  obtain ⟨hz0, hz1, hz2⟩ := hz0
  obtain ⟨w1, hmk, hown, hgr⟩ := run_makeSlice_owned (P := Tryd.prog) W W.heap.size 75 30 i0 (.slice none 0 0) 1 Tryd.underlying75 hi0 hz0 hz1 .i64 .i64 n (by omega) (by rw [hz2]; omega) (by unfold maxLen; omega) (Nat.le_refl _)
  have hb1 : Below W.heap.size W w1 := ⟨hgr.os, hgr.tape, hgr.output, hgr.size, fun k hk => hgr.block k hk (by simp)⟩
  have r0 : RowOf w1 W.heap.size (.slice (some ⟨W.heap.size, 0, none⟩) 0 n) [] [] := ⟨hown, rfl, fun _ hj => absurd hj (Nat.not_lt_zero _), fun _ hj => absurd hj (Nat.not_lt_zero _), fun _ hj => absurd hj (Nat.not_lt_zero _)⟩
  have HN := Lib.hid hn
  have HE := Lib.hid (And.intro he (And.intro hok (And.intro hf (And.intro hB hv))))
  have HR0 := Lib.hid r0
  have HB1 := Lib.hid hb1
  have HI := Lib.hid (And.intro hi0 (And.intro hz0 (And.intro hz1 hz2)))
  clear hn he hok hf hB hv r0 hb1 hown hgr hi0 hz0 hz1 hz2
  go_enter Tryd.func49, Tryd.ntmps49
  go_wp2
  clear hmk
  go_loopw [5, 13] (fun v i wr => ∃ (k : Nat) (a7 : Option Addr) (n7 c7 : Nat) (vs : List Value), k ≤ n ∧ i = .int .i64 k ∧ v = .slice a7 n7 c7 ∧ Hid (RowOf wr W.heap.size (.slice a7 n7 c7) vs ((l.take k).map putEn)) ∧ Hid (Below W.heap.size W wr)) (fun _ i _ => n - (intOf i).toNat)
  case atStart => exact ⟨0, _, _, _, [], Nat.zero_le _, rfl, rfl, HR0, HB1⟩
  case round =>
    obtain ⟨k, a7, n7, c7, vs, hk, rfl, rfl, HR, HB⟩ := hrel
    clear HR0 HB1
    by_cases hlt : k < n
    · have hkl : (k : Int) < (n : Int) := by omega
      have hkx : k < l.length := by have := HN.out; omega
      obtain ⟨b, o, rfl, hb, c0, c1, c2, c3, c4⟩ := (HE.out.1.onP HB.out).cellsP k hkx
      have qa := (Below.refl wr.heap.size wr).alloc (Nat.le_refl _) (.cells #[.string l[k].k, .int .i64 l[k].t, .int .u16 l[k].o, .string l[k].v, .int .i64 l[k].u] 48)
      have hda := HB.out.trans (qa.mono HB.out.size)
      have HC := Lib.hid (ePut_any l[k] (HE.out.2.1 _ (List.getElem_mem hkx)).1 (HE.out.2.1 _ (List.getElem_mem hkx)).2.1 (HE.out.2.1 _ (List.getElem_mem hkx)).2.2.1 (HE.out.2.1 _ (List.getElem_mem hkx)).2.2.2 B _ (Nat.le_trans HE.out.2.2.2.1 hda.size) (HE.out.2.2.2.2.on (hda.mono HE.out.2.2.2.1)))
      have HTk := Lib.hid (show (l.take (k + 1)).map putEn = (l.take k).map putEn ++ [putEn l[k]] by rw [List.take_succ_eq_append_getElem hkx, List.map_append]; rfl)
      have HA := Lib.hid (And.intro qa hda)
      clear hb qa hda
      generalize l[k] = x at *
      clear hkx
      obtain ⟨kx, tx, ox, vx, ux⟩ := x
      dsimp only at c0 c1 c2 c3 c4 HC
      go_wp2_with (go_at_fn 37; refine HC.out.mono ?_; rintro e w2 ⟨a9, k9, c9, rfl, ho2, q2⟩; refine Hid.out ?_)
      refine Lib.hid ?_
      have hx2 : Own w2 wr.heap.size (.slice a9 k9 c9) (putEn ⟨kx, tx, ox, vx, ux⟩) := ownE_base ho2 HA.out.1.size
      have hb2 : Below wr.heap.size wr w2 := HA.out.1.trans (q2.mono HA.out.1.size)
      have hown2 : (w2.alloc (.cells #[.slice a9 k9 c9] 30)).ownsRow W.heap.size 30 1 (.slice a7 n7 c7) vs.length vs := ((HR.out.below hb2).below ((Below.refl w2.heap.size w2).alloc (Nat.le_refl _) _)).own
      have hvl : vs.length = k := by have := HR.out.len; simp only [List.length_map, List.length_take] at this; have := HN.out; omega
      have HZ := Lib.hid (And.intro hx2 (And.intro hb2 (And.intro hown2 hvl)))
      clear c0 c1 c2 c3 c4 HC ho2 q2 hx2 hb2 hown2 hvl HA
      obtain ⟨hx2, hb2, hown2, hvl⟩ := HZ.out
      obtain ⟨hi, hz0, hz1, hz2⟩ := HI.out
      have hvb : vs.length ≤ 100000 := by omega
      have hs2 := hb2.size
      have hsr := HB.out.size
      clear hvl
      go_wp2_with (at_builtin; refine wpList_append_lies _ (by rfl) _ _ 75 (by rfl) W.heap.size 30 i0 (.slice none 0 0) 1 24 Tryd.underlying75 hi hz0 hz1 hz2 rfl (by decide) (.slice a7 n7 c7) vs.length vs (by rfl) hown2 ⟨w2.heap.size, 0, none⟩ 1 1 [.slice a9 k9 c9] (by rfl) rfl (World.news_of_block (cs := #[.slice a9 k9 c9]) (heap_alloc_new _ _)) (by intro u' hu'; simp at hu'; subst hu'; rfl) (by decide) (by unfold maxLen; omega) (by omega) (by simp; omega) (w2.heap.size + 1) (by simp) ?_; refine Hid.out ?_)
      refine Lib.hid ?_
      intro g5 cap w5 hown5 hgrow5 hat5 hlt5
      have hrow5 := HR.out.steps (ms := [putEn ⟨kx, tx, ox, vx, ux⟩]) hb2 rfl (fun j hj => by
        match j, hj with
        | 0, _ => exact hx2.src) (by
        intro y hy q n' c' e
        simp only [List.mem_cons, List.not_mem_nil, or_false] at hy
        subst hy
        have := own_block_lt hx2 q n' c' e
        omega) hown5 hgrow5 (hat5.imp (fun e => e.symm) (fun e => by rw [e]; rfl))
      rw [← HTk.out] at hrow5
      have hnx5 : Below W.heap.size W w5 := ((HB.out.trans (hb2.mono hsr)).alloc (by omega) _).grown hgrow5 (by simp; omega) (fun j hj => (HR.out.own.lt j hj).1)
      have HF := Lib.hid (And.intro hrow5 hnx5)
      clear hown5 hgrow5 hat5 hrow5 hnx5 hx2 hb2 hown2 HZ HTk hi hz0 hz1 hz2
      go_wp2
      go_roundw
      case rel => exact ⟨k + 1, _, _, _, _, by omega, by go_num, rfl, Lib.hid HF.out.1, Lib.hid HF.out.2⟩
      case measure => simp [intOf]; omega
    · have hkl : ¬ (k : Int) < (n : Int) := by omega
      have hkn : k = n := by omega
      have HP := Lib.hid (HR.out.parts)
      have hall : (l.take k).map putEn = l.map putEn := by rw [hkn, HN.out, List.take_length]
      rw [hall] at HP
      have HL := Lib.hid (List_val a7 c7 (l.map putEn) wr HP.out.2 (by rw [List.length_map, ← HN.out]; omega) HE.out.2.2.1 n7 HP.out.1)
      clear hkn hall hlt HP HR
      go_wp2_with (go_at_call 43; refine HL.out.mono ?_; rintro e w2 ⟨a2, k2, c2, rfl, ho2, q2⟩; refine Hid.out ?_)
      refine Lib.hid ?_
      have HQ := Lib.hid (And.intro (ownE_base ho2 HB.out.size) (HB.out.trans (q2.mono HB.out.size)))
      clear ho2 q2 HL
      go_wp2
      go_ret
      exact ⟨a2, k2, c2, rfl, HQ.out.1, HQ.out.2⟩

end Go.Proofs.YtchhdffehkcecaaDoor
