/-
  GroupTells, walked: two times have one revision of alerts just if the same ones fire at both.
-/
import Derived.Test.YtdnpfmmkglgnjaaDoorG6
import Derived.Test.YtdnpfmmkglgnjaaDoorLSame
namespace Go.Proofs.YtdnpfmmkglgnjaaDoor
open Go.RowKit

/-- One operation is taken first, its slot said. -/
theorem wpAnyH_takeA {P : Program} {ops : Array Oper} {Q : Exit → Act → World → Prop} {md : Region.Mode} {S : World → Prop} {i : Nat} (dst : Option Nat) {oi : Oper} {v : Value} {fuel : Nat} {listed : Array Bool} {a : Act} {w : World} (hi : ops[i]? = some oi) (hd : oi.dst = dst)
    (hs : Region.noSelect ops = true) (hf : Region.free md ops listed i = true) (hr : (Region.ready md ops listed).contains i = true)
    (hQ : ∀ c a w, Q (.panic c) (a.put dst v) w → Q (.panic c) a w) (hy : YieldsIf P ops S oi v a) (hS : S w)
    (h : wpAnyH P md ops Q S fuel (listed.setIfInBounds i true) (a.put dst v) w) : wpAnyH P md ops Q S (fuel + 1) listed a w := by
  subst hd
  exact wpAnyH_take hi hs hf hr hQ hy hS h

theorem fire_eq (r : Rw) (now then' : Int) : fireN r now = fireN r then' ↔ firesP r.st r.en now = firesP r.st r.en then' := by
  unfold fireN
  cases firesP r.st r.en now <;> cases firesP r.st r.en then' <;> simp
theorem put01 {n m : Int} (hn : n = 0 ∨ n = 1) (hm : m = 0 ∨ m = 1) {x y : List UInt8} (h : putInt n ++ x = putInt m ++ y) : n = m ∧ x = y := by
  have e0 : putInt 0 = [105, 48, 101] := by decide +kernel
  have e1 : putInt 1 = [105, 49, 101] := by decide +kernel
  rcases hn with rfl | rfl <;> rcases hm with rfl | rfl
  · exact ⟨rfl, List.append_cancel_left h⟩
  · rw [e0, e1] at h; simp at h
  · rw [e0, e1] at h; simp at h
  · exact ⟨rfl, List.append_cancel_left h⟩
theorem flat_eq (now then' : Int) (z : List UInt8) : ∀ M : List Rw, (partsR M now).flatten ++ z = (partsR M then').flatten ++ z → ∀ r ∈ M, firesP r.st r.en now = firesP r.st r.en then'
  | [], _, r, hr => by cases hr
  | x :: M, h, r, hr => by
    have e : ∀ t, (partsR (x :: M) t).flatten ++ z = putText x.key ++ (putInt (fireN x t) ++ ((partsR M t).flatten ++ z)) := fun t => by
      have : partsR (x :: M) t = [putText x.key, putInt (fireN x t)] ++ partsR M t := rfl
      rw [this, List.flatten_append]
      simp
    rw [e, e] at h
    obtain ⟨h1, h2⟩ := put01 (fireN_01 x now) (fireN_01 x then') (List.append_cancel_left h)
    rcases List.mem_cons.1 hr with rfl | hr
    · exact (fire_eq _ _ _).1 h1
    · exact flat_eq now then' z M h2 r hr
theorem parts_eq {now then' : Int} : ∀ {M : List Rw}, (∀ r ∈ M, firesP r.st r.en now = firesP r.st r.en then') → partsR M now = partsR M then'
  | [], _ => rfl
  | x :: M, h => by
    have e : ∀ t, partsR (x :: M) t = [putText x.key, putInt (fireN x t)] ++ partsR M t := fun t => rfl
    rw [e, e, (fire_eq x now then').2 (h x (List.mem_cons_self ..)), parts_eq fun r hr => h r (List.mem_cons_of_mem _ hr)]
/-- Whether the same ones fire. -/
def sameF (now then' : Int) (r : Rw) : Bool := firesP r.st r.en now == firesP r.st r.en then'
theorem rev_same (L : List Rw) (now then' : Int) : ((⟨(revL L now).toArray⟩ : ByteArray).toList == (⟨(revL L then').toArray⟩ : ByteArray).toList) = L.all (sameF now then') := by
  rw [str_beq, Bool.eq_iff_iff, decide_eq_true_eq, List.all_eq_true]
  have hs : (∀ r ∈ L, sameF now then' r = true) ↔ ∀ r ∈ sortR L, firesP r.st r.en now = firesP r.st r.en then' := by
    unfold sameF
    simp only [beq_iff_eq]
    exact ⟨fun h r hr => h r ((sortR_perm L).mem_iff.1 hr), fun h r hr => h r ((sortR_perm L).mem_iff.2 hr)⟩
  rw [hs]
  constructor
  · intro h
    have h1 : revL L now = revL L then' := by
      have := congrArg (fun b : ByteArray => b.data.toList) h
      simpa using this
    by_cases h0 : L.length = 0
    · obtain rfl := List.eq_nil_of_length_eq_zero h0
      intro r hr
      cases hr
    · unfold revL at h1
      rw [if_neg h0, if_neg h0] at h1
      unfold putList at h1
      simp only [List.cons_append, List.cons.injEq, true_and] at h1
      exact flat_eq now then' [101] _ h1
  · intro h
    have h1 : revL L now = revL L then' := by
      unfold revL
      rw [parts_eq h]
    rw [h1]
theorem all_take2 {α : Type} (p : α → Bool) (l : List α) (k : Nat) (hk : k < l.length) : (l.take (k + 1)).all p = ((l.take k).all p && p l[k]) := by
  rw [List.take_succ_eq_append_getElem hk, List.all_append]
  simp

theorem keep_two3 {w w' : World} {B b x y : Nat} {v1 v2 : Value} (hb : Below B w w') (hx : b < B) (h : w.cell? ⟨b, x, none⟩ = some v1 ∧ w.cell? ⟨b, y, none⟩ = some v2) : w'.cell? ⟨b, x, none⟩ = some v1 ∧ w'.cell? ⟨b, y, none⟩ = some v2 :=
  ⟨by rw [hb.cell (p := ⟨b, x, none⟩) hx]; exact h.1, by rw [hb.cell (p := ⟨b, y, none⟩) hx]; exact h.2⟩
/-- The three cells of an alert. -/
def C3 (w : World) (b x : Nat) (r : Rw) : Prop := b < w.heap.size ∧ w.cell? ⟨b, x, none⟩ = some (.slice r.ad r.ps.length r.cp) ∧ w.cell? ⟨b, x + 1, none⟩ = some (.int .i64 r.st) ∧ w.cell? ⟨b, x + 2, none⟩ = some (.int .i64 r.en)
theorem C3.below {w w' : World} {B b x : Nat} {r : Rw} (h : C3 w b x r) (hb : Below B w w') (hB : w.heap.size ≤ B) : C3 w' b x r := by
  obtain ⟨h0, h1, h2, h3⟩ := h
  have hx := Nat.lt_of_lt_of_le h0 hB
  exact ⟨Nat.lt_of_lt_of_le h0 hb.size, by rw [hb.cell (p := ⟨b, x, none⟩) hx]; exact h1, by rw [hb.cell (p := ⟨b, x + 1, none⟩) hx]; exact h2, by rw [hb.cell (p := ⟨b, x + 2, none⟩) hx]; exact h3⟩

set_option maxHeartbeats 8000000 in
set_option maxRecDepth 100000 in
theorem tells_walk (a : Option Addr) (c : Nat) (L : List Rw) (now then' : Int) (w : World) (hv : VarsOk w.heap.size w) (h : AlsAt w a L) (hl : L.length ≤ 9223372036854775807) (hz : ∀ r ∈ L, r.ps.length ≤ 9223372036854775807 ∧ ∀ p ∈ r.ps, p.1.size ≤ 9223372036854775807 ∧ p.2.size ≤ 9223372036854775807) :
    Calls Tryd.prog 6 #[.slice a L.length c, .int .i64 now, .int .i64 then'] w fun e w' => e = .returned (.bool true) ∧ Below w.heap.size w w' := by
  have HLi := Lib.hid (hLight_any a c L 40 w h hl hz _ rfl)
  cases hli : lightB L 40 with
  | false =>
    rw [hli] at HLi
    have HA := Lib.hid (gawake_any w.heap.size w (Nat.le_refl _) hv)
    clear h hz
    go_enter Tryd.func6, Tryd.ntmps6
    go_wp2_with (first
      | (go_at_call 10; refine HLi.out.mono ?_; rintro e w1 ⟨rfl, rfl⟩)
      | (go_at_call 9; refine HA.out.mono ?_; rintro e w2 ⟨rfl, hb2⟩; refine Hid.out ?_))
    refine Lib.hid ?_
    have HB := Lib.hid hb2
    clear hb2
    go_wp2
    go_ret
    exact ⟨rfl, HB.out⟩
  | true =>
    obtain ⟨h40, hL⟩ := lightB_yes hli
    rw [hli] at HLi
    have h40' : L.length ≤ 40 := by omega
    have HLL := Lib.hid hL
    have HAt := Lib.hid h
    have HZ := Lib.hid hz
    clear h hz hL h40 hli
    go_enter Tryd.func6, Tryd.ntmps6
    go_wp2_with (go_at_call 10; refine HLi.out.mono ?_; rintro e w1 ⟨rfl, rfl⟩)
    clear HLi
    go_loopw [7, 8] (fun v7 v8 wr => ∃ (k : Nat) (Q : Bool), k ≤ L.length ∧ v7 = .bool Q ∧ v8 = .int .i64 k ∧ Hid (Q = (L.take k).all (sameF now then')) ∧ Hid (Below w1.heap.size w1 wr)) (fun _ i _ => L.length - (intOf i).toNat)
    case atStart => exact ⟨0, true, Nat.zero_le _, rfl, rfl, Lib.hid (by simp), Lib.hid (Below.refl _ _)⟩
    case round =>
      obtain ⟨k, Q, hk, rfl, rfl, HQ, HB⟩ := hrel
      obtain ⟨wo, hwo⟩ : ∃ x, x = wr := ⟨_, rfl⟩
      subst hwo
      by_cases hlt : k < L.length
      · have hkl : (k : Int) < (L.length : Int) := by omega
        go_wp2
        go_loopw [9] (fun v9 wr => ∃ (m : Nat), m ≤ k ∧ v9 = .int .i64 m ∧ Hid (Below w1.heap.size w1 wr)) (fun i _ => k - (intOf i).toNat)
        case atStart => exact ⟨0, Nat.zero_le _, rfl, HB⟩
        case round =>
          clear HB
          obtain ⟨m, hm, rfl, HB⟩ := hrel
          have hat := HAt.out.below HB.out (Nat.le_refl _)
          obtain ⟨b, o, rfl, hbl, hc⟩ := hat (by omega)
          have hsw := HB.out.size
          obtain ⟨hc1, hc2, hc3, hpa⟩ := hc k hlt
          by_cases hmk : m < k
          · have hmz : (m : Int) < (k : Int) := by omega
            have hmL : m < L.length := by omega
            have hmLz : (m : Int) < (L.length : Int) := by omega
            obtain ⟨hd1, -, -, hpb⟩ := hc m hmL
            have hz1 := (HZ.out L[k] (List.getElem_mem _)).1
            have hz2 := (HZ.out L[m] (List.getElem_mem _)).1
            have HA := Lib.hid (fun W (hb : Below w1.heap.size w1 W) => gawake_any w1.heap.size W hb.size (hv.on hb))
            clear hc hc2 hc3 hat
            generalize L[k] = r1 at *
            generalize L[m] = r2 at *
            cases hsm : decide (r1.ps = r2.ps) with
            | true =>
              go_wp2_with fail
              go_region_held3 (fun w' => w'.cell? ⟨b, o + k * 3, none⟩ = some (.slice r1.ad r1.ps.length r1.cp) ∧ w'.cell? ⟨b, o + m * 3, none⟩ = some (.slice r2.ad r2.ps.length r2.cp)) (first | go_keep | (exact keep_two3 hb1 (by simp; omega) (by assumption)))
                (first
                  | (go_at_call 16; refine (Same_any r1.ad r2.ad r1.cp r2.cp r1.ps r2.ps wr.drew (hpa.below (Below.refl _ _).drew (Nat.le_refl _)) (hpb.below (Below.refl _ _).drew (Nat.le_refl _)) hz1 _ _ rfl rfl).mono ?_; rintro e w2 ⟨rfl, hb1⟩))
              have hb2 : Below wr.heap.size wr w2 := (Below.refl wr.heap.size wr).drew.trans (hb1.mono (by simp))
              have HB2 := Lib.hid (HB.out.trans (hb2.mono hsw))
              clear hb1 hb2 HB hc1 hd1 hpa hpb
              have HAq := Lib.hid (HA.out _ HB2.out)
              clear HA
              go_wp2_with (go_at_call 9; refine HAq.out.mono ?_; rintro e w5 ⟨rfl, hb5⟩; refine Hid.out ?_)
              refine Lib.hid ?_
              have HB5 := Lib.hid (HB2.out.trans (hb5.mono HB2.out.size))
              clear hb5 HAq
              go_wp2
              go_ret
              exact ⟨rfl, HB5.out⟩
            | false =>
              go_wp2_with fail
              go_region_held3 (fun w' => w'.cell? ⟨b, o + k * 3, none⟩ = some (.slice r1.ad r1.ps.length r1.cp) ∧ w'.cell? ⟨b, o + m * 3, none⟩ = some (.slice r2.ad r2.ps.length r2.cp)) (first | go_keep | (exact keep_two3 hb1 (by simp; omega) (by assumption)))
                (first
                  | (go_at_call 16; refine (Same_any r1.ad r2.ad r1.cp r2.cp r1.ps r2.ps wr.drew (hpa.below (Below.refl _ _).drew (Nat.le_refl _)) (hpb.below (Below.refl _ _).drew (Nat.le_refl _)) hz1 _ _ rfl rfl).mono ?_; rintro e w2 ⟨rfl, hb1⟩))
              have hb2 : Below wr.heap.size wr w2 := (Below.refl wr.heap.size wr).drew.trans (hb1.mono (by simp))
              have HB2 := Lib.hid (HB.out.trans (hb2.mono hsw))
              clear hb1 hb2 HB hc1 hd1 hpa hpb HA
              go_wp2
              go_roundw
              case rel => exact ⟨m + 1, by omega, by go_num, HB2⟩
              case measure => simp [intOf]; omega
          · obtain rfl : m = k := by omega
            have hmz : ¬ (m : Int) < (m : Int) := by omega
            have HC3 := Lib.hid (show C3 wr b (o + m * 3) L[m] from ⟨hbl, hc1, hc2, hc3⟩)
            have HTk := Lib.hid (all_take2 (sameF now then') L m hlt)
            have HSF : Hid (sameF now then' L[m] = (firesP L[m].st L[m].en now == firesP L[m].st L[m].en then')) := Lib.hid rfl
            clear hc hc1 hc2 hc3 hpa hat
            generalize L[m] = r1 at *
            cases hQ : Q with
            | false =>
              rw [hQ] at HQ
              have HQ2 : Hid (false = (L.take (m + 1)).all (sameF now then')) := Lib.hid (by rw [HTk.out, ← HQ.out]; rfl)
              have HB2 := Lib.hid (HB.out.trans ((Below.refl w1.heap.size wr).drew))
              go_wp2_with fail
              refine wp_region_any (by kernel_rfl) ?_
              change wpAny _ _ _ _ _ _ _ (World.drew _)
              have hS : (fun w' : World => w' = w') wr.drew := rfl
              refine wpAny_of_held (S := fun w' => w' = w') _ _ _ _ ?_
              refine wpAnyH_takeA (i := 0) (some 37) (v := ?_) rfl rfl (by as_aux_lemma => kernel_rfl) (by as_aux_lemma => kernel_rfl) (by as_aux_lemma => kernel_rfl) (fun _ _ _ h => h) (Or.inl ⟨by kernel_rfl, ?_⟩) hS ?_
              rotate_left
              · intro w hSw; skip; go_simp
                first | done | with_reducible rfl
              refine wpAnyH_takeA (i := 1) (some 38) (v := ?_) rfl rfl (by as_aux_lemma => kernel_rfl) (by as_aux_lemma => kernel_rfl) (by as_aux_lemma => kernel_rfl) (fun _ _ _ h => h) (Or.inl ⟨by kernel_rfl, ?_⟩) hS ?_
              rotate_left
              · intro w hSw; skip; go_simp
                first | done | with_reducible rfl
              refine wpAnyH_takeA (i := 2) (some 39) (v := undef) rfl rfl (by as_aux_lemma => kernel_rfl) (by as_aux_lemma => kernel_rfl) (by as_aux_lemma => kernel_rfl) (fun _ _ _ h => h) (Or.inr ⟨by kernel_rfl, rfl⟩) hS ?_
              refine wpAnyH_takeA (i := 3) (some 40) (v := undef) rfl rfl (by as_aux_lemma => kernel_rfl) (by as_aux_lemma => kernel_rfl) (by as_aux_lemma => kernel_rfl) (fun _ _ _ h => h) (Or.inr ⟨by kernel_rfl, rfl⟩) hS ?_
              refine wpAnyH_takeA (i := 4) (some 41) (v := undef) rfl rfl (by as_aux_lemma => kernel_rfl) (by as_aux_lemma => kernel_rfl) (by as_aux_lemma => kernel_rfl) (fun _ _ _ h => h) (Or.inr ⟨by kernel_rfl, rfl⟩) hS ?_
              refine wpAnyH_takeA (i := 5) (some 42) (v := undef) rfl rfl (by as_aux_lemma => kernel_rfl) (by as_aux_lemma => kernel_rfl) (by as_aux_lemma => kernel_rfl) (fun _ _ _ h => h) (Or.inr ⟨by kernel_rfl, rfl⟩) hS ?_
              refine wpAnyH_takeA (i := 6) (some 43) (v := undef) rfl rfl (by as_aux_lemma => kernel_rfl) (by as_aux_lemma => kernel_rfl) (by as_aux_lemma => kernel_rfl) (fun _ _ _ h => h) (Or.inr ⟨by kernel_rfl, rfl⟩) hS ?_
              refine wpAnyH_takeA (i := 7) (some 44) (v := undef) rfl rfl (by as_aux_lemma => kernel_rfl) (by as_aux_lemma => kernel_rfl) (by as_aux_lemma => kernel_rfl) (fun _ _ _ h => h) (Or.inr ⟨by kernel_rfl, rfl⟩) hS ?_
              refine wpAnyH_takeA (i := 8) (some 45) (v := undef) rfl rfl (by as_aux_lemma => kernel_rfl) (by as_aux_lemma => kernel_rfl) (by as_aux_lemma => kernel_rfl) (fun _ _ _ h => h) (Or.inr ⟨by kernel_rfl, rfl⟩) hS ?_
              refine wpAnyH_takeA (i := 9) (some 46) (v := undef) rfl rfl (by as_aux_lemma => kernel_rfl) (by as_aux_lemma => kernel_rfl) (by as_aux_lemma => kernel_rfl) (fun _ _ _ h => h) (Or.inr ⟨by kernel_rfl, rfl⟩) hS ?_
              refine wpAnyH_takeA (i := 10) (some 47) (v := undef) rfl rfl (by as_aux_lemma => kernel_rfl) (by as_aux_lemma => kernel_rfl) (by as_aux_lemma => kernel_rfl) (fun _ _ _ h => h) (Or.inr ⟨by kernel_rfl, rfl⟩) hS ?_
              refine wpAnyH_takeA (i := 11) (some 48) (v := undef) rfl rfl (by as_aux_lemma => kernel_rfl) (by as_aux_lemma => kernel_rfl) (by as_aux_lemma => kernel_rfl) (fun _ _ _ h => h) (Or.inr ⟨by kernel_rfl, rfl⟩) hS ?_
              refine wpAnyH_takeA (i := 12) (some 49) (v := undef) rfl rfl (by as_aux_lemma => kernel_rfl) (by as_aux_lemma => kernel_rfl) (by as_aux_lemma => kernel_rfl) (fun _ _ _ h => h) (Or.inr ⟨by kernel_rfl, rfl⟩) hS ?_
              refine wpAnyH_takeA (i := 13) (some 50) (v := undef) rfl rfl (by as_aux_lemma => kernel_rfl) (by as_aux_lemma => kernel_rfl) (by as_aux_lemma => kernel_rfl) (fun _ _ _ h => h) (Or.inr ⟨by kernel_rfl, rfl⟩) hS ?_
              refine wpAnyH_takeA (i := 14) (some 51) (v := undef) rfl rfl (by as_aux_lemma => kernel_rfl) (by as_aux_lemma => kernel_rfl) (by as_aux_lemma => kernel_rfl) (fun _ _ _ h => h) (Or.inr ⟨by kernel_rfl, rfl⟩) hS ?_
              refine wpAnyH_takeA (i := 15) (some 52) (v := ?_) rfl rfl (by as_aux_lemma => kernel_rfl) (by as_aux_lemma => kernel_rfl) (by as_aux_lemma => kernel_rfl) (fun _ _ _ h => h) (Or.inl ⟨by kernel_rfl, ?_⟩) hS ?_
              rotate_left
              · intro w hSw; skip; go_simp
                first | done | with_reducible rfl
              refine wpAnyH_takeA (i := 16) (some 7) (v := ?_) rfl rfl (by as_aux_lemma => kernel_rfl) (by as_aux_lemma => kernel_rfl) (by as_aux_lemma => kernel_rfl) (fun _ _ _ h => h) (Or.inl ⟨by kernel_rfl, ?_⟩) hS ?_
              rotate_left
              · intro w hSw; skip; go_simp
                first | done | with_reducible rfl
              refine wpAnyH_done (by kernel_rfl) ?_ _
              clear hS
              go_wp2
              go_roundw
              case rel => exact ⟨m + 1, false, by omega, rfl, by go_num, HQ2, HB2⟩
              case measure => simp [intOf]; omega
            | true =>
              rw [hQ] at HQ
              have HF1 := Lib.hid (fun W => aFires_any r1.ad r1.ps.length r1.cp r1.st r1.en now W)
              have HF2 := Lib.hid (fun W => aFires_any r1.ad r1.ps.length r1.cp r1.st r1.en then' W)
              have HQ2 : Hid ((firesP r1.st r1.en now == firesP r1.st r1.en then') = (L.take (m + 1)).all (sameF now then')) := Lib.hid (by rw [HTk.out, ← HQ.out, HSF.out]; rfl)
              have hC := HC3.out.below ((Below.refl wr.heap.size wr).drew) (Nat.le_refl _)
              have HD1 := Lib.hid ((Below.refl wr.heap.size wr).drew)
              clear HTk HSF HQ HC3
              generalize firesP r1.st r1.en now = f1 at *
              generalize firesP r1.st r1.en then' = f2 at *
              go_wp2_with fail
              refine wp_region_any (by kernel_rfl) ?_
              change wpAny _ _ _ _ _ _ _ (World.drew _)
              have hS : (fun w' : World => C3 w' b (o + m * 3) r1) wr.drew := hC
              refine wpAny_of_held (S := fun w' => C3 w' b (o + m * 3) r1) _ _ _ _ ?_
              refine wpAnyH_takeA (i := 0) (some 37) (v := ?_) rfl rfl (by as_aux_lemma => kernel_rfl) (by as_aux_lemma => kernel_rfl) (by as_aux_lemma => kernel_rfl) (fun _ _ _ h => h) (Or.inl ⟨by kernel_rfl, ?_⟩) hS ?_
              rotate_left
              · intro w hSw; obtain ⟨q0, q1, q2, q3⟩ := hSw; go_simp
                first | done | with_reducible rfl
              refine wpAnyH_takeA (i := 1) (some 38) (v := ?_) rfl rfl (by as_aux_lemma => kernel_rfl) (by as_aux_lemma => kernel_rfl) (by as_aux_lemma => kernel_rfl) (fun _ _ _ h => h) (Or.inl ⟨by kernel_rfl, ?_⟩) hS ?_
              rotate_left
              · intro w hSw; obtain ⟨q0, q1, q2, q3⟩ := hSw; go_simp
                first | done | with_reducible rfl
              refine wpAnyH_takeA (i := 2) (some 39) (v := ?_) rfl rfl (by as_aux_lemma => kernel_rfl) (by as_aux_lemma => kernel_rfl) (by as_aux_lemma => kernel_rfl) (fun _ _ _ h => h) (Or.inl ⟨by kernel_rfl, ?_⟩) hS ?_
              rotate_left
              · intro w hSw; obtain ⟨q0, q1, q2, q3⟩ := hSw; go_simp
                first | done | with_reducible rfl
              refine wpAnyH_takeA (i := 3) (some 40) (v := ?_) rfl rfl (by as_aux_lemma => kernel_rfl) (by as_aux_lemma => kernel_rfl) (by as_aux_lemma => kernel_rfl) (fun _ _ _ h => h) (Or.inl ⟨by kernel_rfl, ?_⟩) hS ?_
              rotate_left
              · intro w hSw; obtain ⟨q0, q1, q2, q3⟩ := hSw; go_simp
                first | done | with_reducible rfl
              refine wpAnyH_takeA (i := 4) (some 41) (v := ?_) rfl rfl (by as_aux_lemma => kernel_rfl) (by as_aux_lemma => kernel_rfl) (by as_aux_lemma => kernel_rfl) (fun _ _ _ h => h) (Or.inl ⟨by kernel_rfl, ?_⟩) hS ?_
              rotate_left
              · intro w hSw; obtain ⟨q0, q1, q2, q3⟩ := hSw; go_simp
                first | done | with_reducible rfl
              refine wpAnyH_takeA (i := 5) (some 42) (v := ?_) rfl rfl (by as_aux_lemma => kernel_rfl) (by as_aux_lemma => kernel_rfl) (by as_aux_lemma => kernel_rfl) (fun _ _ _ h => h) (Or.inl ⟨by kernel_rfl, ?_⟩) hS ?_
              rotate_left
              · intro w hSw; obtain ⟨q0, q1, q2, q3⟩ := hSw; go_simp
                first | done | with_reducible rfl
              refine wpAnyH_takeA (i := 6) (some 43) (v := ?_) rfl rfl (by as_aux_lemma => kernel_rfl) (by as_aux_lemma => kernel_rfl) (by as_aux_lemma => kernel_rfl) (fun _ _ _ h => h) (Or.inl ⟨by kernel_rfl, ?_⟩) hS ?_
              rotate_left
              · intro w hSw; obtain ⟨q0, q1, q2, q3⟩ := hSw; go_simp
                first | done | with_reducible rfl
              refine wpAnyH_takeA (i := 8) (some 45) (v := ?_) rfl rfl (by as_aux_lemma => kernel_rfl) (by as_aux_lemma => kernel_rfl) (by as_aux_lemma => kernel_rfl) (fun _ _ _ h => h) (Or.inl ⟨by kernel_rfl, ?_⟩) hS ?_
              rotate_left
              · intro w hSw; obtain ⟨q0, q1, q2, q3⟩ := hSw; go_simp
                first | done | with_reducible rfl
              refine wpAnyH_takeA (i := 9) (some 46) (v := ?_) rfl rfl (by as_aux_lemma => kernel_rfl) (by as_aux_lemma => kernel_rfl) (by as_aux_lemma => kernel_rfl) (fun _ _ _ h => h) (Or.inl ⟨by kernel_rfl, ?_⟩) hS ?_
              rotate_left
              · intro w hSw; obtain ⟨q0, q1, q2, q3⟩ := hSw; go_simp
                first | done | with_reducible rfl
              refine wpAnyH_takeA (i := 10) (some 47) (v := ?_) rfl rfl (by as_aux_lemma => kernel_rfl) (by as_aux_lemma => kernel_rfl) (by as_aux_lemma => kernel_rfl) (fun _ _ _ h => h) (Or.inl ⟨by kernel_rfl, ?_⟩) hS ?_
              rotate_left
              · intro w hSw; obtain ⟨q0, q1, q2, q3⟩ := hSw; go_simp
                first | done | with_reducible rfl
              refine wpAnyH_takeA (i := 11) (some 48) (v := ?_) rfl rfl (by as_aux_lemma => kernel_rfl) (by as_aux_lemma => kernel_rfl) (by as_aux_lemma => kernel_rfl) (fun _ _ _ h => h) (Or.inl ⟨by kernel_rfl, ?_⟩) hS ?_
              rotate_left
              · intro w hSw; obtain ⟨q0, q1, q2, q3⟩ := hSw; go_simp
                first | done | with_reducible rfl
              refine wpAnyH_takeA (i := 12) (some 49) (v := ?_) rfl rfl (by as_aux_lemma => kernel_rfl) (by as_aux_lemma => kernel_rfl) (by as_aux_lemma => kernel_rfl) (fun _ _ _ h => h) (Or.inl ⟨by kernel_rfl, ?_⟩) hS ?_
              rotate_left
              · intro w hSw; obtain ⟨q0, q1, q2, q3⟩ := hSw; go_simp
                first | done | with_reducible rfl
              refine wpAnyH_ready (rs := [7]) (by as_aux_lemma => kernel_rfl) (by simp) ?_
              refine AllReadyH.cons rfl (fun K hK => ?_) AllReadyH.nil
              go_simp
              go_wp2_with (go_at_call 15; refine (HF1.out _).mono ?_; rintro e w2 ⟨rfl, hb1⟩)
              refine hK.out _ _ ?_ (fun hS => ?_)
              · exact hS.below hb1 (Nat.le_refl _)
              clear hK K
              refine wpAnyH_ready (rs := [13]) (by as_aux_lemma => kernel_rfl) (by simp) ?_
              refine AllReadyH.cons rfl (fun K hK => ?_) AllReadyH.nil
              go_simp
              go_wp2_with (go_at_call 15; refine (HF2.out _).mono ?_; rintro e w3 ⟨rfl, hb2⟩)
              refine hK.out _ _ ?_ (fun hS => ?_)
              · exact hS.below hb2 (Nat.le_refl _)
              clear hK K
              refine wpAnyH_takeA (i := 14) (some 51) (v := ?_) rfl rfl (by as_aux_lemma => kernel_rfl) (by as_aux_lemma => kernel_rfl) (by as_aux_lemma => kernel_rfl) (fun _ _ _ h => h) (Or.inl ⟨by kernel_rfl, ?_⟩) hS ?_
              rotate_left
              · intro w hSw; skip; go_simp
                first | done | with_reducible rfl
              refine wpAnyH_takeA (i := 15) (some 52) (v := ?_) rfl rfl (by as_aux_lemma => kernel_rfl) (by as_aux_lemma => kernel_rfl) (by as_aux_lemma => kernel_rfl) (fun _ _ _ h => h) (Or.inl ⟨by kernel_rfl, ?_⟩) hS ?_
              rotate_left
              · intro w hSw; skip; go_simp
                first | done | with_reducible rfl
              refine wpAnyH_takeA (i := 16) (some 7) (v := ?_) rfl rfl (by as_aux_lemma => kernel_rfl) (by as_aux_lemma => kernel_rfl) (by as_aux_lemma => kernel_rfl) (fun _ _ _ h => h) (Or.inl ⟨by kernel_rfl, ?_⟩) hS ?_
              rotate_left
              · intro w hSw; skip; go_simp
                first | done | with_reducible rfl
              refine wpAnyH_done (by kernel_rfl) ?_ _
              have HB2 := Lib.hid (HB.out.trans (((HD1.out.trans (hb1.mono (by simp))).trans (hb2.mono (by have := hb1.size; simp at this; omega))).mono hsw))
              clear hb1 hb2 hS HB HD1 HF1 HF2
              go_wp2
              go_roundw
              case rel => exact ⟨m + 1, _, by omega, rfl, by go_num, HQ2, HB2⟩
              case measure => simp [intOf]; omega
      · obtain rfl : k = L.length := by omega
        have hkl : ¬ (L.length : Int) < (L.length : Int) := by omega
        have hq : Q = L.all (sameF now then') := by have := HQ.out; rwa [List.take_length] at this
        have hrs := rev_same L now then'
        rw [← hq] at hrs
        have hsw := HB.out.size
        have hat := HAt.out.below HB.out (Nat.le_refl _)
        have HR1 := Lib.hid (gRevision_any a c L now w1.heap.size wo hat h40' HLL.out hsw (hv.on HB.out) _ rfl)
        have HR2 := Lib.hid (fun W (hb : Below wo.heap.size wo W) => gRevision_any a c L then' w1.heap.size W (hat.below hb (Nat.le_refl _)) h40' HLL.out (Nat.le_trans hsw hb.size) (hv.on (HB.out.trans (hb.mono hsw))) _ rfl)
        clear hat HQ hq HZ HLL HAt
        generalize (⟨(revL L now).toArray⟩ : ByteArray) = s1 at *
        generalize (⟨(revL L then').toArray⟩ : ByteArray) = s2 at *
        go_wp2_with (go_at_call 13; refine HR1.out.mono ?_; rintro e w2 ⟨rfl, hb2⟩; refine Hid.out ?_)
        refine Lib.hid ?_
        have HR3 := Lib.hid (HR2.out _ hb2)
        clear HR1 HR2
        go_wp2_with (go_at_call 13; refine HR3.out.mono ?_; rintro e w3 ⟨rfl, hb3⟩; refine Hid.out ?_)
        refine Lib.hid ?_
        have hb4 : Below w1.heap.size w1 w3 := (HB.out.trans (hb2.mono hsw)).trans (hb3.mono (Nat.le_trans hsw hb2.size))
        have HA := Lib.hid (gawake_any w1.heap.size w3 hb4.size (hv.on hb4))
        have HB4 := Lib.hid hb4
        clear HR3 hb2 hb3 hb4 HB
        cases Q with
        | true =>
          go_wp2_with (go_at_call 9; refine HA.out.mono ?_; rintro e w5 ⟨rfl, hb5⟩; refine Hid.out ?_)
          refine Lib.hid ?_
          have HB5 := Lib.hid (HB4.out.trans (hb5.mono HB4.out.size))
          clear hb5 HA
          go_wp2
          go_ret
          exact ⟨rfl, HB5.out⟩
        | false =>
          go_wp2_with (go_at_call 9; refine HA.out.mono ?_; rintro e w5 ⟨rfl, hb5⟩; refine Hid.out ?_)
          refine Lib.hid ?_
          have HB5 := Lib.hid (HB4.out.trans (hb5.mono HB4.out.size))
          clear hb5 HA
          go_wp2
          go_ret
          exact ⟨rfl, HB5.out⟩

end Go.Proofs.YtdnpfmmkglgnjaaDoor
