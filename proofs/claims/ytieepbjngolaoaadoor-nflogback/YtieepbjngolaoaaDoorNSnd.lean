/-
  Whether two sendings are one; a sending's entry is told again as it was.
-/
import Derived.Test.YtieepbjngolaoaaDoorN7
namespace Go.Proofs.YtieepbjngolaoaaDoor
open Go Go.RowKit

/-- Whether two sendings are one. -/
def eqSn (x y : Snd) : Bool := x.r.toList == y.r.toList && (x.k.toList == y.k.toList && (x.v.toList == y.v.toList && x.t == y.t))
theorem eqSn_refl (x : Snd) : eqSn x x = true := by simp [eqSn]
set_option maxRecDepth 20000 in
theorem run_eqN (x y : Snd) (w : World) : (binOp .eql 33 (.agg #[.string x.r, .string x.k, .string x.v, .int .i64 x.t]) (.agg #[.string y.r, .string y.k, .string y.v, .int .i64 y.t])).run Tryd.prog w = .ok (.bool (eqSn x y)) w := by
  unfold eqSn
  cases h0 : x.r.toList == y.r.toList <;> cases h1 : x.k.toList == y.k.toList <;> cases h2 : x.v.toList == y.v.toList <;> go_simp <;> (by_cases hu : x.t = y.t <;> simp [hu])
theorem okN_zero : okN zeroE = false := okN_no1 (by decide +kernel)
theorem back_ok {s : Snd} {keep : Int} (o : Int) (ht : -9223372036854775808 ≤ s.t ∧ s.t ≤ 9223372036854775807) (hk : -9223372036854775808 ≤ keep ∧ keep ≤ 9223372036854775807) (h : errN s keep = 0) : okN (entN s o keep) = true ∧ ofN (entN s o keep) = s ∧ checkEn (entN s o keep) = 0 := by
  have g1 : s.r.size ≠ 0 := fun e => by rw [errN_arg1 e] at h; exact absurd h (by decide)
  have g2 : s.k.size ≠ 0 := fun e => by rw [errN_arg2 e] at h; exact absurd h (by decide)
  have hw := h
  rw [errN_words g1 g2 ht hk] at hw
  split at hw
  · exact absurd hw (by decide)
  rename_i n1
  split at hw
  · exact absurd hw (by decide)
  rename_i n2
  have n3 : (keyN s.r s.k).size ≤ 1024 := by omega
  have z1 : s.r.data.toList.length = s.r.size := rfl
  have z2 : s.k.data.toList.length = s.k.size := rfl
  have n4 : s.r.size ≤ 1024 ∧ s.k.size ≤ 1024 := by
    have e : (keyN s.r s.k).data.toList.length = (keyN s.r s.k).size := rfl
    rw [keyN_list] at e
    simp only [partsN, putList, putText, List.flatten_cons, List.flatten_nil, List.length_append, List.length_cons, List.length_nil] at e
    omega
  have hc := (hasN_key s.r s.k).2
  have hp : putList (partsN s.r s.k) = 108 :: (putText s.r.data.toList ++ (putText s.k.data.toList ++ [101])) := by simp [putList, partsN]
  have hb : byteE 108 0 (108 :: (putText s.r.data.toList ++ (putText s.k.data.toList ++ [101]))) = (putText s.r.data.toList ++ (putText s.k.data.toList ++ [101]), 0) := by simp [byteE, rdByte]
  have q1 : textE 1024 0 (putText s.r.data.toList ++ (putText s.k.data.toList ++ [101])) = (putText s.k.data.toList ++ [101], 0, s.r.data.toList) := read_putText _ (by omega) 1024 (by omega) _
  have q2 : textE 1024 0 (putText s.k.data.toList ++ [101]) = ([101], 0, s.k.data.toList) := read_putText _ (by omega) 1024 (by omega) _
  have hs : sndN (entN s o keep) (cutN (entN s o keep).k) = s := by
    show sndN (entN s o keep) (cutN (keyN s.r s.k)) = s
    rw [hc, hp]
    simp only [sndN, rdG, rdR, hb, q1, q2]
    obtain ⟨r, k, v, t⟩ := s
    rfl
  have hkp : keepN (entN s o keep) = keep := by
    show IntKind.i64.wrap (IntKind.i64.wrap (s.t + keep) - s.t) = keep
    rw [IntKind.wrap_i64, IntKind.wrap_i64]
    omega
  have h1 : okN (entN s o keep) = true := (okN_iff _).2 ⟨(hasN_key s.r s.k).1, by rw [hs, hkp]; exact h, by rw [hs, hkp]; exact ansN_ok h⟩
  exact ⟨h1, by rw [ofN_ok h1]; exact hs, by rw [← errN_check g1 g2 o]; exact h⟩

end Go.Proofs.YtieepbjngolaoaaDoor
