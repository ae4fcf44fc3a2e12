/-
  What there of package member yields: the nodes of those that are not dead.
-/
import Derived.Test.YtnoconampcemoaaB6
namespace Go.Proofs.Ytnoconampcemoaa
open Go Go.RowKit Go.Shelf

def encU (x : Int) : Array Value := #[.int .u16 x]
theorem thereL_snoc (l : List Mem) (m : Mem) : thereL (l ++ [m]) = thereL l ++ (if m.s = 2 then [] else [m.n]) := by
  unfold thereL
  rw [List.filter_append, List.map_append]
  by_cases h : m.s = 2
  · rw [if_pos h]
    simp [h]
  · rw [if_neg h]
    have e : (m.s == 2) = false := by simpa using h
    simp [e]
theorem thereL_pre {l r : List Mem} (h : l <+: r) : thereL l <+: thereL r := by
  obtain ⟨t, rfl⟩ := h
  unfold thereL
  rw [List.filter_append, List.map_append]
  exact List.prefix_append _ _

attribute [local go_sem] Oper.semAt_some

set_option maxRecDepth 100000 in
set_option maxHeartbeats 4000000 in
theorem bthere_in (n : Nat) (rv : Option Addr) (ms : List Mem) (W : World) (hT : ∀ V, Below W.heap.size W V → ∀ m, SeqB Fence.wide m Try.prog 51 #[.pointer rv] #[] encB 0 ms V) : SeqB Fence.wide n Try.prog 64 #[.pointer rv] #[] encU 3 (thereL ms) W := by
  intro ll J Jx hJ hJx hY h0
  have eg : ∀ args w, (callFunc 51 args).run Try.prog w = .ok (.enter 51 args) w := enters_of Try.func51 (by kernel_rfl) rfl
  refine callsIn_of_wp_marks Try.func64 rfl trivial ?_ rfl
  simp only [Try.ntmps64, List.size_toArray, List.length_cons, List.length_nil, Nat.reduceAdd, Nat.reduceSub, Array.replicate_succ, Array.replicate_zero, List.push_toArray, List.append_toArray, List.nil_append, List.cons_append]
  have bX := Boxed.new W 124 (.func (.yield ll) #[] #[])
  have hb0 := (Below.refl W.heap.size W).alloc (Nat.le_refl _) (.cells #[.func (.yield ll) #[] #[]] 124)
  have hsz : (W.alloc (.cells #[.func (.yield ll) #[] #[]] 124)).heap.size = W.heap.size + 1 := by simp
  have hT0 : ∀ V, Below (W.alloc (.cells #[.func (.yield ll) #[] #[]] 124)).heap.size (W.alloc (.cells #[.func (.yield ll) #[] #[]] 124)) V → ∀ m, SeqB Fence.wide m Try.prog 51 #[.pointer rv] #[] encB 0 ms V := fun V hV m => hT V (hb0.trans (hV.mono hb0.size)) m
  have hJ0 := hJ _ _ _ h0 (AbB.of_below hb0)
  have HZ := Lib.hid (And.intro bX (And.intro hsz (And.intro hT0 hJ0)))
  have HJ := Lib.hid hJ
  have HJx := Lib.hid hJx
  have HY := Lib.hid hY
  clear bX hsz hT0 hJ0 hb0 h0 hJ hJx hY hT
  gi_wp2_with fail
  obtain ⟨bX, hsz, hT0, hJ0⟩ := HZ.out
  generalize W.alloc (.cells #[.func (.yield ll) #[] #[]] 124) = W0 at *
  clear HZ
  refine wpIn_rangeB rfl (fun h => by cases h) (gf := 51) (bn := #[.pointer rv]) (lb := #[]) rfl trivial eg
    (encs := encB) (c := 0) (xs := ms) (fun V hV hVs => hT0 V hV _) (fun _ => rfl)
    (fun pre V => J (thereL pre) V ∧ Boxed V W.heap.size 124 (.func (.yield ll) #[] #[]))
    (fun cd _ V => cd = .ret ∧ ∃ p, Jx p V)
    (fun s A B hs hab => ⟨HJ.out _ _ _ hs.1 (hab.mono (by omega)), hab.cells hs.2⟩)
    (fun cd s A B hs hab => ⟨hs.1, hs.2.imp fun p hp => HJx.out _ _ _ hp (hab.mono (by omega))⟩)
    ⟨hJ0, bX⟩
    (fun m a' V => ∃ Bx, Mb V Bx m ∧ a' = { tmps := #[.pointer rv, .func (.yield ll) #[] #[], undef, .pointer (some ⟨W.heap.size, 0, none⟩), .pointer (some ⟨Bx, 0, none⟩), .pointer rv, .func (.func 51) #[.pointer rv] #[], .agg #[.int .u16 m.n, .int .u8 m.s, .int .i64 m.i], undef, undef, undef, undef, undef, undef, undef, undef, undef, undef], defers := [] })
    (fun m a' A B hs hab => by obtain ⟨Bx, h1, h2⟩ := hs; exact ⟨Bx, hab.cells h1, h2⟩)
    ?assign ?body ?done ?stop
  case assign =>
    intro l pre m V K hi hsz2 hK
    dsimp only [encB] at hK ⊢
    gi_wp2
    exact hK _ _ ((Below.refl _ V).alloc (Nat.le_refl _) _) ⟨V.heap.size, Mb.new V m, rfl⟩
  case body =>
    rintro l pre m a' V ⟨hj, hbx⟩ hsz2 hpre ⟨Bx, hm, rfl⟩
    have hpl := thereL_pre hpre
    have HE := Lib.hid (thereL_snoc pre m)
    rw [thereL_snoc] at hpl
    have c0 := hm.c0
    have c1 := hm.c1
    have hb := hbx.cell
    obtain ⟨mn, ms, mi⟩ := m
    dsimp only at hpl c0 c1 HE
    by_cases h2 : ms = 2
    · have e2 : ((ms : Int) != 2) = false := by simp [h2]
      have HF := Lib.hid (And.intro hj hbx)
      rw [if_pos h2, List.append_nil] at HE
      clear h2 hj hbx hpl hpre
      gi_wp2
      refine ⟨fun _ h => (by cases h), ?_⟩
      gi_wp2
      exact ⟨KpR.of_below (Below.refl _ _), by show J (thereL (pre ++ _)) _ ∧ _; rw [HE.out]; exact HF.out⟩
    · have e2 : ((ms : Int) != 2) = true := by simpa using h2
      rw [if_neg h2] at hpl HE
      obtain ⟨fn, tmps, assign, body, hy, hR⟩ := YieldAt.anyDeep (F := Fence.wide) rfl (n - 1 - 1 - 1) (HY.out _ _ _ hj (by omega) hpl)
      dsimp only [encU] at hy
      clear h2 hj hpl hpre
      have HBx := Lib.hid hbx
      clear hbx
      gi_wp2
      refine ⟨(fun h => by cases h), RoundIn.mono hR ?_⟩
      rintro e W3 (⟨rfl, hJ3, hk3⟩ | ⟨rfl, hJx3, hk3⟩)
      · have HF : Hid (KpR W0.heap.size (W0.heap.size + 2 + 0) V W3 ∧ J (thereL (pre ++ [⟨mn, ms, mi⟩])) W3 ∧ Boxed W3 W.heap.size 124 (.func (.yield ll) #[] #[])) := Lib.hid ⟨hk3.part (by omega) (by omega), by rw [HE.out]; exact hJ3, (hk3.same _ (Nat.le_refl _) (by omega) (by omega)).trans HBx.out⟩
        clear hk3 hJ3 hR hy HBx
        gi_wp2
        exact HF.out
      · have HF : Hid (KpR W0.heap.size (W0.heap.size + 2 + 0) V W3 ∧ Jx (thereL pre ++ [mn]) W3) := Lib.hid ⟨hk3.part (by omega) (by omega), hJx3⟩
        clear hk3 hJx3 hR hy HBx
        gi_wp2
        exact ⟨HF.out.1, rfl, _, HF.out.2⟩
  case done =>
    rintro D V hD ⟨hj, hbx⟩ hK
    have HF := Lib.hid (HJ.out _ _ _ hj (AbB.putObj (l := D) (by omega) hK rfl (.deferred none)))
    clear hj hbx
    gi_wp2
    refine ⟨by simp, .inl ⟨_, _, rfl, run_takeDeferred hK, ?_⟩⟩
    exact ⟨_, results_none rfl _ _ _, ⟨_, rfl⟩, .inl HF.out⟩
  case stop =>
    rintro D cd pre V hD ⟨rfl, p, hp⟩ hK
    have HF := Lib.hid (HJx.out _ _ _ hp (AbB.putObj (l := D) (by omega) hK rfl (.deferred none)))
    clear hp
    gi_wp2
    refine ⟨by simp, .inl ⟨_, _, rfl, run_takeDeferred hK, ?_⟩⟩
    exact ⟨_, results_none rfl _ _ _, ⟨_, rfl⟩, .inr ⟨_, HF.out⟩⟩

set_option maxRecDepth 100000 in
set_option maxHeartbeats 4000000 in
theorem ball_nil (n : Nat) (W : World) : SeqB Fence.wide n Try.prog 51 #[.pointer none] #[] encB 0 [] W := by
  intro ll J Jx hJ hJx hY h0
  refine callsIn_of_wp Try.func51 rfl trivial ?_ rfl
  simp only [Try.ntmps51, List.size_toArray, List.length_cons, List.length_nil, Nat.reduceAdd, Nat.reduceSub, Array.replicate_succ, Array.replicate_zero, List.push_toArray, List.append_toArray, List.nil_append, List.cons_append]
  clear hY hJ hJx
  gi_wp2
  refine bodyPost_ret (results_none rfl _ _ _) rfl ?_
  exact ⟨⟨_, rfl⟩, .inl h0⟩

end Go.Proofs.Ytnoconampcemoaa
