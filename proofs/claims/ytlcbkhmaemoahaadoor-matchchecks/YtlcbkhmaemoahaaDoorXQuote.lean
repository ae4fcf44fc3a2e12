/-
  Quote: a text with a stroke ahead of each special byte; the program's, and the document's.
-/
import Derived.Test.YtlcbkhmaemoahaaDoorXMatch
import Derived.Laws.IdiomStrings
import Derived.Lib.BufferWrite
import Derived.Lib.SlBytesConst
import Derived.Shelf.Bytes.SlSmallAll
import Derived.BigCall
namespace Go.Proofs.YtlcbkhmaemoahaaDoor
open Go.RowKit

def quoteC (c : UInt8) : List UInt8 := if isSpec c = true then [92, c] else [c]
def quoteL (l : List UInt8) : List UInt8 := l.flatMap quoteC
theorem quoteL_snoc (l : List UInt8) (c : UInt8) : quoteL (l ++ [c]) = quoteL l ++ quoteC c := by simp [quoteL]
theorem quoteC_len (c : UInt8) : (quoteC c).length ≤ 2 := by unfold quoteC; split <;> simp
theorem quoteL_len : ∀ l : List UInt8, (quoteL l).length ≤ 2 * l.length
  | [] => Nat.le_refl _
  | c :: l => by
    have h1 := quoteL_len l
    have h2 := quoteC_len c
    have e : quoteL (c :: l) = quoteC c ++ quoteL l := rfl
    rw [e, List.length_append, List.length_cons]
    omega
theorem quoteL_ge : ∀ l : List UInt8, l.length ≤ (quoteL l).length
  | [] => Nat.le_refl _
  | c :: l => by
    have h1 := quoteL_ge l
    have h2 : 1 ≤ (quoteC c).length := by unfold quoteC; split <;> simp
    have e : quoteL (c :: l) = quoteC c ++ quoteL l := rfl
    rw [e, List.length_append, List.length_cons]
    omega

/-- Bytes of the call's own. -/
def OwnB (w : World) (B : Nat) (v : Value) (l : List UInt8) : Prop := w.ownsRow B 5 1 v l.length (Lib.byteCells l)
theorem infoByte : (Tryd.prog.info? 5).map (fun i => (i.zero, i.size, i.bytes)) = some (some (.int .u8 0), 1, 1) := by kernel_rfl
theorem OwnB.of {w : World} {B n : Nat} {v : Value} {xs : List Value} {l : List UInt8} (h : w.ownsRow B 5 1 v n xs) (e : xs = Lib.byteCells l) : OwnB w B v l := by
  subst e
  have := h.1
  simp [Lib.byteCells] at this
  unfold OwnB
  rw [this]
  exact h
theorem OwnB.form {w : World} {B : Nat} {v : Value} {l : List UInt8} (h : OwnB w B v l) : ∃ a c, v = .slice a l.length c := by
  rcases h.2 with ⟨rfl, h0⟩ | ⟨g, cap, cur, rfl, -⟩
  · exact ⟨none, 0, by rw [h0]⟩
  · exact ⟨_, _, rfl⟩
theorem cell_one_new (w : World) (x : Value) (t : TypeId) : ∀ j u, [x][j]? = some u → (w.alloc (.cells #[x] t)).cell? ((⟨w.heap.size, 0, none⟩ : Addr).add j) = some u := fun j u hj => by
  have hj0 : j = 0 := by have := (List.getElem?_eq_some_iff.1 hj).1; simp at this; exact this
  subst hj0
  rw [Go.WideShapes.add_plain]
  exact (cell_heap (heap_new w _)).trans hj
theorem own_string {w : World} {B : Nat} {v : Value} {l : List UInt8} (h : OwnB w B v l) : (convert 81 9 v).run Tryd.prog w = .ok (.string ⟨l.toArray⟩) w := by
  rcases h.2 with ⟨rfl, h0⟩ | ⟨g, cap, cur, rfl, hg0, hg1, hcap, hmax, hcs, htk⟩
  · obtain rfl := List.eq_nil_of_length_eq_zero h0
    exact run_convert_bytes_zero w 81 5 Tryd.underlying81 Tryd.underlying5 none 0 9 Tryd.underlying9
  · refine run_convert_bytes_back (P := Tryd.prog) w 81 9 5 _ cap l Tryd.underlying81 Tryd.underlying5 Tryd.underlying9 fun j hj => ?_
    exact World.ownsRow.cells h (g := g) rfl j _ (by simp [Lib.byteCells, hj])

theorem append_byte {w2 : World} {B n : Nat} {v2 : Value} {l : List UInt8} {c : UInt8} {z : Int} (h : w2.ownsRow B 5 1 v2 n (Lib.byteCells l ++ [.int .u8 z])) (hz : z = (c.toNat : Int)) : OwnB w2 B v2 (l ++ [c]) := by
  subst hz
  exact OwnB.of h (by simp [Lib.byteCells])

set_option maxHeartbeats 2000000 in
theorem quote_any (s : ByteArray) (w : World) (hs : s.size ≤ 1048576) : Calls Tryd.prog 29 #[.string s] w fun e w' => e = .returned (.string ⟨(quoteL s.data.toList).toArray⟩) ∧ Below w.heap.size w w' := by
  obtain ⟨i0, hi, hi0, hi1, hi2⟩ := info_parts infoByte
  have HI := Lib.hid (And.intro hi0 (And.intro hi1 hi2))
  clear hi0 hi1 hi2
  go_enter Tryd.func29, Tryd.ntmps29
  go_wp2
  go_loopw [3, 7] (fun v i wr => ∃ (k : Nat) (a : Option Addr) (c : Nat), k ≤ s.size ∧ i = .int .i64 k ∧ v = .slice a (quoteL (s.data.toList.take k)).length c ∧ OwnB wr w.heap.size v (quoteL (s.data.toList.take k)) ∧ Below w.heap.size w wr) (fun _ i _ => s.size - (intOf i).toNat)
  case atStart => exact ⟨0, none, 0, Nat.zero_le _, rfl, rfl, World.ownsRow_nil _ _ _ _, Below.refl _ _⟩
  case round =>
    obtain ⟨k, a, c, hk, rfl, rfl, hown, hb⟩ := hrel
    by_cases hlt : k < s.size
    · have hki : (k : Int) < (s.size : Int) := by omega
      have HT := Lib.hid (take_snoc s k hlt)
      have HQ := Lib.hid (isSpecial_any s[k])
      have hlen := quoteL_len (s.data.toList.take k)
      rw [List.length_take] at hlen
      have hl2 : (quoteL (s.data.toList.take k)).length ≤ 2097152 := by omega
      clear hlen
      have hbs := hb.size
      have HX : Hid (quoteL (s.data.toList.take (k + 1)) = quoteL (s.data.toList.take k) ++ quoteC s[k]) := Lib.hid (by rw [HT.out, quoteL_snoc])
      generalize quoteL (s.data.toList.take k) = L at *
      cases hsp : isSpec s[k] with
      | true =>
        rw [hsp] at HQ
        have HC : Hid (quoteC s[k] = [92, s[k]]) := Lib.hid (by unfold quoteC; rw [hsp]; rfl)
        clear hsp
        go_wp2_with (first | (go_at_call 46; refine (HQ.out _).mono ?_; rintro e w' ⟨rfl, hw'⟩; rw [hw']; clear hw') | (at_builtin; refine Hid.out ?_))
        refine Lib.hid ?_
        refine wpList_append_own_at _ rfl _ _ 81 rfl w.heap.size 5 i0 (.int .u8 0) 1 1 Tryd.underlying81 hi HI.out.1 HI.out.2.1 HI.out.2.2 rfl (by decide) (.slice a L.length c) _ _ rfl (hown.alloc _) ⟨wr.heap.size, 0, none⟩ 1 1 [Value.int .u8 92] rfl rfl (cell_one_new _ _ _) (by intro u' hu'; simp at hu'; subst hu'; rfl) (by unfold maxLen; omega) (by omega) (by simp; omega) ?_
        intro v2 w2 hown2 hgrow _ hat
        have ho2 := append_byte (c := 92) hown2 rfl
        have hb2 : Below w.heap.size w w2 := (hb.alloc hbs _).grown hgrow (by simp; omega) (fun j hj => (hown.lt j hj).1)
        have hbs2 := hb2.size
        obtain ⟨a2, c2, hv2⟩ := ho2.form
        rw [List.length_append, List.length_singleton] at hv2
        subst hv2
        clear hown2 hgrow hat hown hb
        go_wp2_with (at_builtin; refine Hid.out ?_)
        refine Lib.hid ?_
        refine wpList_append_own_at _ rfl _ _ 81 rfl w.heap.size 5 i0 (.int .u8 0) 1 1 Tryd.underlying81 hi HI.out.1 HI.out.2.1 HI.out.2.2 rfl (by decide) (.slice a2 (L.length + 1) c2) _ _ rfl (ho2.alloc _) ⟨w2.heap.size, 0, none⟩ 1 1 [Value.int .u8 s[k].toNat] rfl rfl (cell_one_new _ _ _) (by intro u' hu'; simp at hu'; subst hu'; rfl) (by simp; unfold maxLen; omega) (by simp; omega) (by simp; omega) ?_
        intro v3 w3 hown3 hgrow _ hat
        have ho3 := append_byte (c := s[k]) hown3 rfl
        have hb3 : Below w.heap.size w w3 := (hb2.alloc hbs2 _).grown hgrow (by simp; omega) (fun j hj => (ho2.lt j hj).1)
        obtain ⟨a3, c3, hv3⟩ := ho3.form
        rw [List.length_append, List.length_append, List.length_singleton, List.length_singleton] at hv3
        subst hv3
        clear hown3 hgrow hat ho2 hb2
        go_wp2
        have e : quoteL (s.data.toList.take (k + 1)) = L ++ [92] ++ [s[k]] := by rw [HX.out, HC.out]; simp
        exact ⟨⟨k + 1, a3, c3, by omega, by go_num, by rw [e]; simp, by rw [e]; exact ho3, hb3⟩, by simp [intOf]; omega⟩
      | false =>
        rw [hsp] at HQ
        have HC : Hid (quoteC s[k] = [s[k]]) := Lib.hid (by unfold quoteC; rw [hsp]; rfl)
        clear hsp
        go_wp2_with (first | (go_at_call 46; refine (HQ.out _).mono ?_; rintro e w' ⟨rfl, hw'⟩; rw [hw']; clear hw') | (at_builtin; refine Hid.out ?_))
        refine Lib.hid ?_
        refine wpList_append_own_at _ rfl _ _ 81 rfl w.heap.size 5 i0 (.int .u8 0) 1 1 Tryd.underlying81 hi HI.out.1 HI.out.2.1 HI.out.2.2 rfl (by decide) (.slice a L.length c) _ _ rfl (hown.alloc _) ⟨wr.heap.size, 0, none⟩ 1 1 [Value.int .u8 s[k].toNat] rfl rfl (cell_one_new _ _ _) (by intro u' hu'; simp at hu'; subst hu'; rfl) (by unfold maxLen; omega) (by omega) (by simp; omega) ?_
        intro v2 w2 hown2 hgrow _ hat
        have ho2 := append_byte (c := s[k]) hown2 rfl
        have hb2 : Below w.heap.size w w2 := (hb.alloc hbs _).grown hgrow (by simp; omega) (fun j hj => (hown.lt j hj).1)
        obtain ⟨a2, c2, hv2⟩ := ho2.form
        rw [List.length_append, List.length_singleton] at hv2
        subst hv2
        clear hown2 hgrow hat hown hb
        go_wp2
        have e : quoteL (s.data.toList.take (k + 1)) = L ++ [s[k]] := by rw [HX.out, HC.out]
        exact ⟨⟨k + 1, a2, c2, by omega, by go_num, by rw [e]; simp, by rw [e]; exact ho2, hb2⟩, by simp [intOf]; omega⟩
    · obtain rfl : k = s.size := by omega
      have e : s.data.toList.take s.size = s.data.toList := List.take_of_length_le (by simp)
      rw [e] at hown ⊢
      have hcv := own_string hown
      clear hown
      go_wp2
      go_ret
      exact ⟨rfl, hb⟩

end Go.Proofs.YtlcbkhmaemoahaaDoor
