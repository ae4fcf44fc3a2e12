/-
  What Put of package entry lays; the closed case of layer 9.
-/
import Derived.Test.YtkbonifbnbdbkaaDoorE2
import Derived.Lib.SlBytesConst
import Derived.Shelf.Bytes.SlSmallAll
namespace Go.Proofs.YtkbonifbnbdbkaaDoor
open Go.RowKit

/-- The table of powers stands. -/
def TabE (B : Nat) (w : World) : Prop := Lib.TabBelow Tryd.prog B w "internal/strconv.uint64pow10" .u64 Lib.pow10Tab
theorem TabE.on {B : Nat} {w w' : World} (h : TabE B w) (hb : Below B w w') : TabE B w' := fun w2 h2 => h w2 (hb.trans h2)
/-- The parts of an entry. -/
def partsE9 (x : Ent) : List (List UInt8) := [putText x.k.data.toList, putInt x.t, putInt x.o, putText x.v.data.toList, putInt x.u]
/-- The bytes of an entry. -/
def putEn (x : Ent) : List UInt8 := putList (partsE9 x)
/-- The numbers of an entry are those of their types. -/
def Ent.Ok (x : Ent) : Prop := (-9223372036854775808 ≤ x.t ∧ x.t ≤ 9223372036854775807) ∧ (0 ≤ x.o ∧ x.o ≤ 65535) ∧ (-9223372036854775808 ≤ x.u ∧ x.u ≤ 9223372036854775807)

theorem own_stringE {w : World} {B : Nat} {v : Value} {l : List UInt8} (h : Own w B v l) : (convert 29 9 v).run Tryd.prog w = .ok (.string ⟨l.toArray⟩) w := by
  rcases h.src with ⟨rfl, rfl⟩ | ⟨q, c, rfl, hc⟩
  · exact run_convert_bytes_zero w 29 5 Tryd.underlying29 Tryd.underlying5 none 0 9 Tryd.underlying9
  · exact run_convert_bytes_back (P := Tryd.prog) w 29 9 5 q c l Tryd.underlying29 Tryd.underlying5 Tryd.underlying9 hc

theorem ownE_base {w : World} {B B' : Nat} {v : Value} {l : List UInt8} (h : Own w B v l) (hb : B' ≤ B) : Own w B' v l := by
  refine ⟨h.1, ?_⟩
  rcases h.2 with hn | ⟨g, cap, cur, hv, hbg, rest⟩
  · exact .inl hn
  · exact .inr ⟨g, cap, cur, hv, Nat.le_trans hb hbg, rest⟩

set_option maxHeartbeats 4000000 in
set_option maxRecDepth 100000 in
theorem ePut_any (x : Ent) (hx : x.Ok) (hk : x.k.size ≤ 140737488351232) (hvs : x.v.size ≤ 140737488351232) (hl : (partsE9 x).flatten.length ≤ 140737488355000) (B : Nat) (W : World) (hB : B ≤ W.heap.size) (hv : TabE B W) :
    Calls Tryd.prog 30 #[.agg #[.string x.k, .int .i64 x.t, .int .u16 x.o, .string x.v, .int .i64 x.u]] W fun e w' => ∃ a k c, e = .returned (.slice a k c) ∧ Own w' W.heap.size (.slice a k c) (putEn x) ∧ Below W.heap.size W w' := by
  have b1 := EBlk.new W x
  have d1 := (Below.refl _ W).alloc (Nat.le_refl _) (.cells #[.string x.k, .int .i64 x.t, .int .u16 x.o, .string x.v, .int .i64 x.u] 27)
  have HZ := Lib.hid (And.intro b1 d1)
  have HX := Lib.hid (And.intro hx (And.intro hk (And.intro hvs (And.intro hl (And.intro hB hv)))))
  have wo : IntKind.i64.wrap x.o = x.o := by rw [IntKind.wrap_i64]; have := hx.2.1; omega
  clear b1 d1 hx hk hvs hl hB hv
  go_enter Tryd.func30, Tryd.ntmps30
  go_wp2_with fail
  obtain ⟨b2, d2⟩ := HZ.out
  generalize hw2 : (W.alloc (.cells #[.string x.k, .int .i64 x.t, .int .u16 x.o, .string x.v, .int .i64 x.u] 27)) = w2 at *
  clear hw2 HZ
  have hW2 := d2.size
  have HD := Lib.hid d2
  obtain ⟨hx, hk, hvs, hl, hB, hv⟩ := HX.out
  have q2 : Below W.heap.size W w2.drew := d2.drew
  have v2 := hv.on (q2.mono hB)
  have HV2 := Lib.hid v2
  have HA1 := Lib.hid (Text_valT x.k hk B w2.drew (Nat.le_trans hB d2.size) v2)
  clear hx hk hvs hl hB hv v2 q2 d2
  refine wp_region_any (by kernel_rfl) ?_
  change wpAny _ _ _ _ _ _ _ (World.drew _)
  have hS : (fun w' : World => EBlk w' W.heap.size x) w2.drew := b2
  refine wpAny_of_held (S := fun w' => EBlk w' W.heap.size x) _ _ _ _ ?_
  clear b2
  refine wpAnyH_takeE (i := 0) (some 3) (v := ?_) rfl rfl (by as_aux_lemma => kernel_rfl) (by as_aux_lemma => kernel_rfl) (by as_aux_lemma => kernel_rfl) (fun _ _ _ h => h) (Or.inl ⟨by kernel_rfl, ?_⟩) hS ?_
  rotate_left
  · intro w hSw; have c0 := hSw.c0; have c1 := hSw.c1; have c2 := hSw.c2; have c3 := hSw.c3; have c4 := hSw.c4; go_simp
    first | done | with_reducible rfl
  refine wpAnyH_takeE (i := 1) (some 4) (v := ?_) rfl rfl (by as_aux_lemma => kernel_rfl) (by as_aux_lemma => kernel_rfl) (by as_aux_lemma => kernel_rfl) (fun _ _ _ h => h) (Or.inl ⟨by kernel_rfl, ?_⟩) hS ?_
  rotate_left
  · intro w hSw; have c0 := hSw.c0; have c1 := hSw.c1; have c2 := hSw.c2; have c3 := hSw.c3; have c4 := hSw.c4; go_simp
    first | done | with_reducible rfl
  refine wpAnyH_takeE (i := 3) (some 6) (v := ?_) rfl rfl (by as_aux_lemma => kernel_rfl) (by as_aux_lemma => kernel_rfl) (by as_aux_lemma => kernel_rfl) (fun _ _ _ h => h) (Or.inl ⟨by kernel_rfl, ?_⟩) hS ?_
  rotate_left
  · intro w hSw; have c0 := hSw.c0; have c1 := hSw.c1; have c2 := hSw.c2; have c3 := hSw.c3; have c4 := hSw.c4; go_simp
    first | done | with_reducible rfl
  refine wpAnyH_takeE (i := 4) (some 7) (v := ?_) rfl rfl (by as_aux_lemma => kernel_rfl) (by as_aux_lemma => kernel_rfl) (by as_aux_lemma => kernel_rfl) (fun _ _ _ h => h) (Or.inl ⟨by kernel_rfl, ?_⟩) hS ?_
  rotate_left
  · intro w hSw; have c0 := hSw.c0; have c1 := hSw.c1; have c2 := hSw.c2; have c3 := hSw.c3; have c4 := hSw.c4; go_simp
    first | done | with_reducible rfl
  refine wpAnyH_takeE (i := 6) (some 9) (v := ?_) rfl rfl (by as_aux_lemma => kernel_rfl) (by as_aux_lemma => kernel_rfl) (by as_aux_lemma => kernel_rfl) (fun _ _ _ h => h) (Or.inl ⟨by kernel_rfl, ?_⟩) hS ?_
  rotate_left
  · intro w hSw; have c0 := hSw.c0; have c1 := hSw.c1; have c2 := hSw.c2; have c3 := hSw.c3; have c4 := hSw.c4; go_simp
    first | done | with_reducible rfl
  refine wpAnyH_takeE (i := 7) (some 10) (v := ?_) rfl rfl (by as_aux_lemma => kernel_rfl) (by as_aux_lemma => kernel_rfl) (by as_aux_lemma => kernel_rfl) (fun _ _ _ h => h) (Or.inl ⟨by kernel_rfl, ?_⟩) hS ?_
  rotate_left
  · intro w hSw; have c0 := hSw.c0; have c1 := hSw.c1; have c2 := hSw.c2; have c3 := hSw.c3; have c4 := hSw.c4; go_simp
    first | done | with_reducible rfl
  refine wpAnyH_takeE (i := 8) (some 11) (v := ?_) rfl rfl (by as_aux_lemma => kernel_rfl) (by as_aux_lemma => kernel_rfl) (by as_aux_lemma => kernel_rfl) (fun _ _ _ h => h) (Or.inl ⟨by kernel_rfl, ?_⟩) hS ?_
  rotate_left
  · intro w hSw; have c0 := hSw.c0; have c1 := hSw.c1; have c2 := hSw.c2; have c3 := hSw.c3; have c4 := hSw.c4; go_simp
    first | done | with_reducible rfl
  refine wpAnyH_takeE (i := 10) (some 13) (v := ?_) rfl rfl (by as_aux_lemma => kernel_rfl) (by as_aux_lemma => kernel_rfl) (by as_aux_lemma => kernel_rfl) (fun _ _ _ h => h) (Or.inl ⟨by kernel_rfl, ?_⟩) hS ?_
  rotate_left
  · intro w hSw; have c0 := hSw.c0; have c1 := hSw.c1; have c2 := hSw.c2; have c3 := hSw.c3; have c4 := hSw.c4; go_simp
    first | done | with_reducible rfl
  refine wpAnyH_takeE (i := 11) (some 14) (v := ?_) rfl rfl (by as_aux_lemma => kernel_rfl) (by as_aux_lemma => kernel_rfl) (by as_aux_lemma => kernel_rfl) (fun _ _ _ h => h) (Or.inl ⟨by kernel_rfl, ?_⟩) hS ?_
  rotate_left
  · intro w hSw; have c0 := hSw.c0; have c1 := hSw.c1; have c2 := hSw.c2; have c3 := hSw.c3; have c4 := hSw.c4; go_simp
    first | done | with_reducible rfl
  refine wpAnyH_takeE (i := 13) (some 16) (v := ?_) rfl rfl (by as_aux_lemma => kernel_rfl) (by as_aux_lemma => kernel_rfl) (by as_aux_lemma => kernel_rfl) (fun _ _ _ h => h) (Or.inl ⟨by kernel_rfl, ?_⟩) hS ?_
  rotate_left
  · intro w hSw; have c0 := hSw.c0; have c1 := hSw.c1; have c2 := hSw.c2; have c3 := hSw.c3; have c4 := hSw.c4; go_simp
    first | done | with_reducible rfl
  refine wpAnyH_takeE (i := 14) (some 17) (v := ?_) rfl rfl (by as_aux_lemma => kernel_rfl) (by as_aux_lemma => kernel_rfl) (by as_aux_lemma => kernel_rfl) (fun _ _ _ h => h) (Or.inl ⟨by kernel_rfl, ?_⟩) hS ?_
  rotate_left
  · intro w hSw; have c0 := hSw.c0; have c1 := hSw.c1; have c2 := hSw.c2; have c3 := hSw.c3; have c4 := hSw.c4; go_simp
    first | done | with_reducible rfl
  refine wpAnyH_ready (rs := [2]) (by as_aux_lemma => kernel_rfl) (by simp) ?_
  refine AllReadyH.cons rfl (fun K hK => ?_) AllReadyH.nil
  go_simp
  go_wp2_with (go_at_call 46; refine HA1.out.mono ?_; rintro e w3 ⟨a3, k3, c3, rfl, ho3, hb3⟩)
  refine hK.out _ _ ?_ (fun hS => ?_)
  · exact hS.on hb3
  clear hK K
  obtain ⟨hx, hk, hvs, hl, hB, hv⟩ := HX.out
  have d3 : Below W.heap.size W w3 := HD.out.drew.trans (hb3.mono (HD.out.drew).size)
  have v3 := hv.on (d3.mono hB)
  have HD3 := Lib.hid d3
  have HO3 := Lib.hid ho3
  have HB3 := Lib.hid hb3
  have HA2 := Lib.hid (Int_valT x.t hx.1.1 hx.1.2 B w3 (Nat.le_trans hB d3.size) v3)
  clear hx hk hvs hl hB hv v3 d3 ho3 hb3 HA1
  refine wpAnyH_ready (rs := [5]) (by as_aux_lemma => kernel_rfl) (by simp) ?_
  refine AllReadyH.cons rfl (fun K hK => ?_) AllReadyH.nil
  go_simp
  go_wp2_with (go_at_call 47; refine HA2.out.mono ?_; rintro e w4 ⟨a4, k4, c4, rfl, ho4, hb4⟩)
  refine hK.out _ _ ?_ (fun hS => ?_)
  · exact hS.on hb4
  clear hK K
  obtain ⟨hx, hk, hvs, hl, hB, hv⟩ := HX.out
  have d4 : Below W.heap.size W w4 := HD3.out.trans (hb4.mono (HD3.out).size)
  have v4 := hv.on (d4.mono hB)
  have HD4 := Lib.hid d4
  have HO4 := Lib.hid ho4
  have HB4 := Lib.hid hb4
  have HA3 := Lib.hid (Int_valT x.o (by have := hx.2.1; omega) (by have := hx.2.1; omega) B w4 (Nat.le_trans hB d4.size) v4)
  clear hx hk hvs hl hB hv v4 d4 ho4 hb4 HA2
  refine wpAnyH_ready (rs := [9]) (by as_aux_lemma => kernel_rfl) (by simp) ?_
  refine AllReadyH.cons rfl (fun K hK => ?_) AllReadyH.nil
  go_simp
  go_wp2_with (go_at_call 47; refine HA3.out.mono ?_; rintro e w5 ⟨a5, k5, c5, rfl, ho5, hb5⟩)
  refine hK.out _ _ ?_ (fun hS => ?_)
  · exact hS.on hb5
  clear hK K
  obtain ⟨hx, hk, hvs, hl, hB, hv⟩ := HX.out
  have d5 : Below W.heap.size W w5 := HD4.out.trans (hb5.mono (HD4.out).size)
  have v5 := hv.on (d5.mono hB)
  have HD5 := Lib.hid d5
  have HO5 := Lib.hid ho5
  have HB5 := Lib.hid hb5
  have HA4 := Lib.hid (Text_valT x.v hvs B w5 (Nat.le_trans hB d5.size) v5)
  clear hx hk hvs hl hB hv v5 d5 ho5 hb5 HA3
  refine wpAnyH_ready (rs := [12]) (by as_aux_lemma => kernel_rfl) (by simp) ?_
  refine AllReadyH.cons rfl (fun K hK => ?_) AllReadyH.nil
  go_simp
  go_wp2_with (go_at_call 46; refine HA4.out.mono ?_; rintro e w6 ⟨a6, k6, c6, rfl, ho6, hb6⟩)
  refine hK.out _ _ ?_ (fun hS => ?_)
  · exact hS.on hb6
  clear hK K
  obtain ⟨hx, hk, hvs, hl, hB, hv⟩ := HX.out
  have d6 : Below W.heap.size W w6 := HD5.out.trans (hb6.mono (HD5.out).size)
  have v6 := hv.on (d6.mono hB)
  have HD6 := Lib.hid d6
  have HO6 := Lib.hid ho6
  have HB6 := Lib.hid hb6
  have HA5 := Lib.hid (Int_valT x.u hx.2.2.1 hx.2.2.2 B w6 (Nat.le_trans hB d6.size) v6)
  clear hx hk hvs hl hB hv v6 d6 ho6 hb6 HA4
  refine wpAnyH_ready (rs := [15]) (by as_aux_lemma => kernel_rfl) (by simp) ?_
  refine AllReadyH.cons rfl (fun K hK => ?_) AllReadyH.nil
  go_simp
  go_wp2_with (go_at_call 47; refine HA5.out.mono ?_; rintro e w7 ⟨a7, k7, c7, rfl, ho7, hb7⟩)
  refine hK.out _ _ ?_ (fun hS => ?_)
  · exact hS.on hb7
  clear hK K
  obtain ⟨hx, hk, hvs, hl, hB, hv⟩ := HX.out
  have d7 : Below W.heap.size W w7 := HD6.out.trans (hb7.mono (HD6.out).size)
  have v7 := hv.on (d7.mono hB)
  have HD7 := Lib.hid d7
  have HO7 := Lib.hid ho7
  have HB7 := Lib.hid hb7
  clear hx hk hvs hl hB hv v7 d7 ho7 hb7 HA5
  refine wpAnyH_ready (rs := [16]) (by as_aux_lemma => kernel_rfl) (by simp) ?_
  refine AllReadyH.cons rfl (fun K hK => ?_) AllReadyH.nil
  go_simp
  go_wp2_with (fail)
  refine hK.out _ _ ?_ (fun hS => ?_)
  · exact hS.on ((Below.refl w7.heap.size w7).alloc (Nat.le_refl _) _)
  clear hK K
  have hbb : Below w7.heap.size w7 (w7.alloc (.cells #[.slice a3 k3 c3, .slice a4 k4 c4, .slice a5 k5 c5, .slice a6 k6 c6, .slice a7 k7 c7] 29)) := (Below.refl _ _).alloc (Nat.le_refl _) _
  have e3 := ((((HO3.out.src.below HB4.out (Nat.le_refl _)).below HB5.out (Nat.le_refl _)).below HB6.out (Nat.le_refl _)).below HB7.out (Nat.le_refl _)).below hbb (Nat.le_refl _)
  have e4 := (((HO4.out.src.below HB5.out (Nat.le_refl _)).below HB6.out (Nat.le_refl _)).below HB7.out (Nat.le_refl _)).below hbb (Nat.le_refl _)
  have e5 := ((HO5.out.src.below HB6.out (Nat.le_refl _)).below HB7.out (Nat.le_refl _)).below hbb (Nat.le_refl _)
  have e6 := (HO6.out.src.below HB7.out (Nat.le_refl _)).below hbb (Nat.le_refl _)
  have e7 := HO7.out.src.below hbb (Nat.le_refl _)
  have n0 := newE w7 (.cells #[.slice a3 k3 c3, .slice a4 k4 c4, .slice a5 k5 c5, .slice a6 k6 c6, .slice a7 k7 c7] 29)
  have hp : PartsAt (w7.alloc (.cells #[.slice a3 k3 c3, .slice a4 k4 c4, .slice a5 k5 c5, .slice a6 k6 c6, .slice a7 k7 c7] 29)) (some ⟨w7.heap.size, 0, none⟩) (partsE9 x) := fun _ => ⟨_, 0, rfl, fun i hi => by
    match i, hi with
    | 0, _ => exact ⟨_, cellE n0, e3⟩
    | 1, _ => exact ⟨_, cellE n0, e4⟩
    | 2, _ => exact ⟨_, cellE n0, e5⟩
    | 3, _ => exact ⟨_, cellE n0, e6⟩
    | 4, _ => exact ⟨_, cellE n0, e7⟩⟩
  have HL := Lib.hid (List_val (some ⟨w7.heap.size, 0, none⟩) 5 _ _ hp (by simp [partsE9]) HX.out.2.2.2.1 5 rfl)
  have HN := Lib.hid (HD7.out.trans (hbb.mono HD7.out.size))
  have hz : W.heap.size ≤ (w7.alloc (.cells #[.slice a3 k3 c3, .slice a4 k4 c4, .slice a5 k5 c5, .slice a6 k6 c6, .slice a7 k7 c7] 29)).heap.size := HN.out.size
  have HZ := Lib.hid hz
  clear hp e3 e4 e5 e6 e7 hbb n0 HO3 HO4 HO5 HO6 HO7 HB3 HB4 HB5 HB6 HB7 HD3 HD4 HD5 HD6 HD7 HD hz
  refine wpAnyH_ready (rs := [17]) (by as_aux_lemma => kernel_rfl) (by simp) ?_
  refine AllReadyH.cons rfl (fun K hK => ?_) AllReadyH.nil
  go_simp
  go_wp2_with (go_at_call 45; refine HL.out.mono ?_; rintro e w8 ⟨a8, k8, c8, rfl, ho8, hb8⟩)
  refine hK.out _ _ ?_ (fun hS => ?_)
  · exact hS.on hb8
  clear hK K
  refine wpAnyH_takeE (i := 18) (some 2) (v := ?_) rfl rfl (by as_aux_lemma => kernel_rfl) (by as_aux_lemma => kernel_rfl) (by as_aux_lemma => kernel_rfl) (fun _ _ _ h => h) (Or.inl ⟨by kernel_rfl, ?_⟩) hS ?_
  rotate_left
  · intro w hSw; skip; go_simp
    first | done | with_reducible rfl
  refine wpAnyH_done (by kernel_rfl) ?_ _
  have ho9 : Own w8 W.heap.size (.slice a8 k8 c8) (putEn x) := ownE_base ho8 HZ.out
  have HF := Lib.hid (And.intro ho9 (HN.out.trans (hb8.mono HZ.out)))
  clear ho8 ho9 hb8 hS HL HN HZ
  go_wp2
  go_ret
  exact ⟨a8, k8, c8, rfl, HF.out.1, HF.out.2⟩

def awE : Ent := ⟨⟨#[107]⟩, 5, 1, ⟨#[118]⟩, 9⟩
def awZ : Ent := ⟨⟨#[]⟩, 5, 0, ⟨#[]⟩, 0⟩
theorem putEn_aw : putEn awE = [108, 49, 58, 107, 105, 53, 101, 105, 49, 101, 49, 58, 118, 105, 57, 101, 101] := by decide +kernel
theorem above_aw : aboveE awE awZ = true := by decide +kernel
theorem above_aw2 : aboveE awE awE = false := by decide +kernel

end Go.Proofs.YtkbonifbnbdbkaaDoor
