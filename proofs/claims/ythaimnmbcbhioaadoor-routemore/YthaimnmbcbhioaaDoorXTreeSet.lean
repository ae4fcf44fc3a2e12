/-
  The reference's sets.
-/
import Derived.Test.YthaimnmbcbhioaaDoorXTreeSetA
import Derived.Test.YthaimnmbcbhioaaDoorXTreeSetB
namespace Go.Proofs.YthaimnmbcbhioaaDoor
open Go.RowKit


set_option maxRecDepth 20000 in
set_option maxHeartbeats 8000000 in
theorem set_empty (s : ByteArray) (w : World) (hx : s.size = 0) : Calls Tryd.prog 91 #[.string s] w fun e w' => SE s.data.toList e ∧ Below w.heap.size w w' := by
  have kz := zero_tree
  have hx3 : ¬ (0 : Int) < (s.size : Int) := by omega
  have HF : Hid (pSet s.data.toList = none) := Lib.hid (by rw [bytes_nil hx]; unfold pSet; rw [if_neg (by simp)]; exact items_none rfl)
  go_enter Tryd.func91, Tryd.ntmps91
  go_wp2_with fail
  have t1 := (TreeBlk.new w (noT 0)).alloc (.cells (treeC (noT 0)) 102)
  have t2 := TreeBlk.new' (w.alloc (.cells (treeC (noT 0)) 102)) (noT 0) (w.heap.size + 1) (by simp)
  have hb0 := ((Below.refl w.heap.size w).alloc (Nat.le_refl _) (.cells (treeC (noT 0)) 102)).alloc (by simp) (.cells (treeC (noT 0)) 102)
  generalize (w.alloc (.cells (treeC (noT 0)) 102)).alloc (.cells (treeC (noT 0)) 102) = W at *
  clear kz
  go_loopw [0, 7] (fun sv nv wz => sv = .string s ∧ nv = .int .i64 0 ∧ wz = W) (fun _ _ _ => 0)
  case atStart => exact ⟨rfl, rfl, rfl⟩
  case round =>
    obtain ⟨rfl, rfl, hwz⟩ := hrel
    subst hwz
    have hne := isEmpty_yes hx
    go_wp2_with (refine stop_load _ rfl ?_)
    refine Lib.hid ?_
    refine wp_load_tree _ rfl _ rfl (show TreeBlk _ _ (oneT noneB) from t2) ?_
    have kn := treeC_size (oneT (noneB))
    have ks := t1.storeCells (oneT (noneB))
    have t3 := t1.row (oneT (noneB))
    have hb3 := below_setRow hb0 w.heap.size (Nat.le_refl _) (treeC (oneT (noneB)))
    generalize World.setRow _ _ _ = W3 at *
    go_wp2
    exact bodyPost_ret (results_tree3 rfl _ _ _ rfl t3) rfl ⟨.inl ⟨HF.out, _, rfl⟩, hb3⟩

theorem set_ref (s : ByteArray) (w : World) (hs : s.size ≤ 9223372036854775807) : Calls Tryd.prog 91 #[.string s] w fun e w' => SE s.data.toList e ∧ Below w.heap.size w w' := by
  rcases Nat.eq_zero_or_pos s.size with h | h
  · exact set_empty s w h
  · by_cases hh : s[0] = 94
    · have e : (s.extract 1 s.size).data.toList = s.data.toList.drop 1 := extract_list s 1
      have hp : pSet s.data.toList = match pItems s.data.toList.length noneB (s.data.toList.drop 1) with | none => none | some (T, l') => some (notB T, l') := by
        unfold pSet
        rw [if_pos (by rw [bytes_cons s h, hh]; rfl)]
        rfl
      refine set_hat s w hs h (beq_yes (n := 94) (by decide) hh) (pItems s.data.toList.length noneB (s.data.toList.drop 1)) (Lib.hid ⟨s.data.toList.length, ?_, ?_⟩) (Lib.hid fun hr => ?_) (Lib.hid fun T x hr => ?_)
      · rw [e, List.length_drop]; have : s.data.toList.length = s.size := by simp
        omega
      · rw [if_pos rfl, e]
      · rw [hp, hr]
      · rw [hp, hr]
    · have hp : pSet s.data.toList = pItems (s.data.toList.length + 1) noneB s.data.toList := by
        unfold pSet
        rw [if_neg (by rw [bytes_cons s h]; simpa using hh)]
      exact set_plain s w hs h (beq_no (n := 94) (by decide) hh) (pSet s.data.toList) (Lib.hid ⟨s.data.toList.length + 1, by omega, by rw [if_pos rfl, hp]⟩) (Lib.hid id) (Lib.hid fun T x hr => hr)

end Go.Proofs.YthaimnmbcbhioaaDoor
