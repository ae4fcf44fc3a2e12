/-
  What the reference's Parse tells: the document's error, and a tree that means the pattern.
-/
import Derived.Test.YtbkejafjlapmnaaDoorXPw
import Derived.Test.YtbkejafjlapmnaaDoorXMatch
namespace Go.Proofs.YtbkejafjlapmnaaDoor
open Go.RowKit

theorem par_ih : ∀ (n : Nat) (s : ByteArray), s.size = n → n ≤ 200 → ParIH s := by
  intro n
  induction n using Nat.strongRecOn with
  | ind n ih =>
    intro s hs hn
    have H := fun u => eparse_any s u (by omega) (fun s1 h1 => ih s1.size (by omega) s1 rfl (by omega))
    refine ⟨fun hq u => (H u).mono fun e w' ⟨hE, hb⟩ => ?_, fun A s2 hq u => (H u).mono fun e w' ⟨hE, hb⟩ => ?_⟩
    · rcases hE with ⟨-, h2⟩ | ⟨A, s2, t, h1, -⟩
      · exact ⟨h2, hb⟩
      · rw [hq] at h1; cases h1
    · rcases hE with ⟨h1, -⟩ | ⟨A', s2', t, h1, h2, h3⟩
      · rw [hq] at h1; cases h1
      · rw [hq] at h1
        injection h1 with h1
        injection h1 with e1 e2
        obtain rfl := ba_ext e2
        subst e1
        exact ⟨⟨t, h2, h3⟩, hb⟩

theorem results_tree2 {fn : Func} {p u : Tmp} (h : fn.results = #[.cell p 108, .tmp u]) (tmps : Array Value) (w : World) (b : Nat) {t : TV} (hp : tmps.getD p undef = .pointer (some ⟨b, 0, none⟩)) (ht : TreeBlk w b t) :
    (results fn tmps).run Tryd.prog w = .ok (.tuple #[.agg (treeC t), tmps.getD u undef]) w := by
  have hp' : tmps[p]?.getD undef = .pointer (some ⟨b, 0, none⟩) := by simpa using hp
  simp [results, h, hp', asAddr, ht.load]

/-- Parse tells an error. -/
def PErr (s : ByteArray) (w : World) (E : Int) : Prop := Calls Tryd.prog 69 #[.string s] w fun e w' => (∃ t, e = .returned (.tuple #[.agg (treeC t), .int .i64 E])) ∧ Below w.heap.size w w'

set_option maxRecDepth 20000 in
set_option maxHeartbeats 2000000 in
theorem eParse_long (s : ByteArray) (w : World) (h : 64 < s.size) : PErr s w 5 := by
  unfold PErr
  have kz := zero_tree
  have kn := treeC_size
  have hl : (64 : Int) < (s.size : Int) := by omega
  have tA := TreeBlk.new w (noT 0)
  have hbA := (Below.refl w.heap.size w).alloc (Nat.le_refl _) (.cells (treeC (noT 0)) 108)
  have ks := tA.storeCells (noT 0)
  have t3 := tA.row (noT 0)
  have hb3 := below_setRow hbA w.heap.size (Nat.le_refl _) (treeC (noT 0))
  clear h tA hbA
  go_enter Tryd.func69, Tryd.ntmps69
  go_wp2
  exact bodyPost_ret (results_tree2 rfl _ _ _ rfl t3) rfl ⟨⟨_, rfl⟩, hb3⟩

set_option maxRecDepth 20000 in
set_option maxHeartbeats 2000000 in
theorem eParse_no (s : ByteArray) (w : World) (h : s.size ≤ 64) (hq : pL noL epsL s.data.toList = none) : PErr s w 9 := by
  unfold PErr
  have HC := Lib.hid ((par_ih s.size s rfl (by omega)).1 hq)
  have kz := zero_tree
  have kn := treeC_size
  have hl : ¬ (64 : Int) < (s.size : Int) := by omega
  have tA := TreeBlk.new w (noT 0)
  have hbA := (Below.refl w.heap.size w).alloc (Nat.le_refl _) (.cells (treeC (noT 0)) 108)
  clear h hq
  go_enter Tryd.func69, Tryd.ntmps69
  go_wp2_with (go_at_call 87; refine (HC.out _).mono ?_; rintro e w1 ⟨⟨t, rfl⟩, q1⟩; refine Hid.out ?_)
  refine Lib.hid ?_
  have t1 := (tA.below q1).alloc (.cells (treeC t) 108)
  have hb1 := (hbA.trans (q1.mono hbA.size)).alloc (Nat.le_trans hbA.size q1.size) (.cells (treeC t) 108)
  have ks0 := store_last w1 w1.heap.size rfl (noT 0) t
  have ks := t1.storeCells (noT 0)
  have t3 := t1.row (noT 0)
  have hb3 := below_setRow hb1 w.heap.size (Nat.le_refl _) (treeC (noT 0))
  clear t1 hb1 tA hbA q1 HC
  go_wp2
  exact bodyPost_ret (results_tree2 rfl _ _ _ rfl t3) rfl ⟨⟨_, rfl⟩, hb3⟩

set_option maxRecDepth 20000 in
set_option maxHeartbeats 2000000 in
theorem eParse_more (s s2 : ByteArray) (w : World) (h : s.size ≤ 64) (A : Lang) (hq : pL noL epsL s.data.toList = some (A, s2.data.toList)) (h2 : 0 < s2.size) : PErr s w 9 := by
  unfold PErr
  have HC := Lib.hid ((par_ih s.size s rfl (by omega)).2 A s2 hq)
  have kz := zero_tree
  have kn := treeC_size
  have hl : ¬ (64 : Int) < (s.size : Int) := by omega
  have hne := isEmpty_no h2
  have tA := TreeBlk.new w (noT 0)
  have hbA := (Below.refl w.heap.size w).alloc (Nat.le_refl _) (.cells (treeC (noT 0)) 108)
  clear h hq
  go_enter Tryd.func69, Tryd.ntmps69
  go_wp2_with (go_at_call 87; refine (HC.out _).mono ?_; rintro e w1 ⟨⟨t, rfl, -⟩, q1⟩; refine Hid.out ?_)
  refine Lib.hid ?_
  have t1 := (tA.below q1).alloc (.cells (treeC t) 108)
  have hb1 := (hbA.trans (q1.mono hbA.size)).alloc (Nat.le_trans hbA.size q1.size) (.cells (treeC t) 108)
  have ks0 := store_last w1 w1.heap.size rfl (noT 0) t
  have ks := t1.storeCells (noT 0)
  have t3 := t1.row (noT 0)
  have hb3 := below_setRow hb1 w.heap.size (Nat.le_refl _) (treeC (noT 0))
  clear t1 hb1 tA hbA q1 HC
  go_wp2
  exact bodyPost_ret (results_tree2 rfl _ _ _ rfl t3) rfl ⟨⟨_, rfl⟩, hb3⟩

set_option maxRecDepth 20000 in
set_option maxHeartbeats 2000000 in
theorem eParse_ok (s : ByteArray) (w : World) (h : s.size ≤ 64) (A : Lang) (hq : pParse s.data.toList = some A) :
    Calls Tryd.prog 69 #[.string s] w fun e w' => (∃ t, e = .returned (.tuple #[.agg (treeC t), .int .i64 0]) ∧ ∃ d, Den d w' (fun b => w.heap.size ≤ b ∧ b < w'.heap.size) t A) ∧ Below w.heap.size w w' := by
  have HC := Lib.hid ((par_ih s.size s rfl (by omega)).2 A ⟨#[]⟩ (parse_some.1 hq))
  have kz := zero_tree
  have kn := treeC_size
  have hl : ¬ (64 : Int) < (s.size : Int) := by omega
  have tA := TreeBlk.new w (noT 0)
  have hbA := (Below.refl w.heap.size w).alloc (Nat.le_refl _) (.cells (treeC (noT 0)) 108)
  clear h hq
  go_enter Tryd.func69, Tryd.ntmps69
  go_wp2_with (go_at_call 87; refine (HC.out _).mono ?_; rintro e w1 ⟨⟨t, rfl, d, hd⟩, q1⟩; refine Hid.out ?_)
  refine Lib.hid ?_
  have t1 := (tA.below q1).alloc (.cells (treeC t) 108)
  have hb1 := (hbA.trans (q1.mono hbA.size)).alloc (Nat.le_trans hbA.size q1.size) (.cells (treeC t) 108)
  have ks0 := store_last w1 w1.heap.size rfl (noT 0) t
  have t2 := TreeBlk.new w1 t
  have ks := t1.storeCells t
  have t3 := t1.row t
  have hb3 := below_setRow hb1 w.heap.size (Nat.le_refl _) (treeC t)
  have hA1 : (w.alloc (.cells (treeC (noT 0)) 108)).heap.size = w.heap.size + 1 := by simp
  have HD : Hid (Den d ((w1.alloc (.cells (treeC t) 108)).setRow w.heap.size (treeC t)) (fun b => w.heap.size ≤ b ∧ b < ((w1.alloc (.cells (treeC t) 108)).setRow w.heap.size (treeC t)).heap.size) t A) := Lib.hid (by
    refine Den.keep (fun b hb => ?_) (fun b hb => ?_) _ _ _ hd
    · rw [hA1] at hb
      rw [setRow_other _ _ _ _ (by omega)]
      exact Below.heap_alloc w1 _ b hb.2
    · rw [hA1] at hb
      refine ⟨by omega, ?_⟩
      rw [size_setRow]
      simp
      omega)
  clear hd t1 hb1 tA hbA hA1 q1 HC
  go_wp2_with (with_reducible change wpList Tryd.prog _ _ (_ :: _) _ _; refine wpList_load_tree rfl _ rfl _ rfl t2 ?_)
  exact bodyPost_ret (results_tree2 rfl _ _ _ rfl t3) rfl ⟨⟨_, rfl, _, HD.out⟩, hb3⟩

theorem eParse_err (s : ByteArray) (w : World) (he : errE s.data.toList ≠ 0) : PErr s w (errE s.data.toList) := by
  have hl : s.data.toList.length = s.size := by simp
  unfold errE at he ⊢
  rw [hl] at he ⊢
  by_cases h1 : 64 < s.size
  · rw [if_pos h1]
    exact eParse_long s w h1
  · rw [if_neg h1] at he ⊢
    cases hp : pParse s.data.toList with
    | some A => rw [hp] at he; exact absurd rfl he
    | none =>
      show PErr s w 9
      cases hq : pL noL epsL s.data.toList with
      | none => exact eParse_no s w (by omega) hq
      | some q =>
        obtain ⟨A, l2⟩ := q
        have hne : l2 ≠ [] := fun e => by
          rw [parse_pL, hq] at hp
          simp only [e, if_true] at hp
          cases hp
        refine eParse_more s ⟨l2.toArray⟩ w (by omega) A hq ?_
        show 0 < l2.toArray.size
        simpa using List.length_pos_iff.2 hne

end Go.Proofs.YtbkejafjlapmnaaDoor
