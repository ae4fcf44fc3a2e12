/-
  Bytes that are read: the first of them as a text, how many there are, all of them as a text.
-/
import Derived.Test.YtchhdffehkcecaaDoorPut2
import Derived.Shelf.Bytes.SlSmallAll
import Derived.Lib.SlBytesConst
namespace Go.Proofs.YtchhdffehkcecaaDoor
open Go.RowKit

theorem src_take {w : World} {a : Option Addr} {n c : Nat} {l : List UInt8} (h : SrcAt w (.slice a n c) l) (k : Nat) (hk : k ≤ l.length) : (convert 30 9 (.slice a k c)).run Tryd.prog w = .ok (.string ⟨(l.take k).toArray⟩) w := by
  rcases h with ⟨e, rfl⟩ | ⟨q, c', e, hc⟩
  · simp only [Value.slice.injEq] at e
    obtain ⟨rfl, rfl, rfl⟩ := e
    obtain rfl : k = 0 := by simpa using hk
    exact run_convert_bytes_zero w 30 5 Tryd.underlying30 Tryd.underlying5 none 0 9 Tryd.underlying9
  · simp only [Value.slice.injEq] at e
    obtain ⟨rfl, rfl, rfl⟩ := e
    have hl : (l.take k).length = k := by simp; omega
    have := run_convert_bytes_back (P := Tryd.prog) w 30 9 5 q c (l.take k) Tryd.underlying30 Tryd.underlying5 Tryd.underlying9 (fun j hj => by
      rw [List.length_take] at hj
      rw [List.getElem_take]
      exact hc j (by omega))
    rw [hl] at this
    exact this

theorem src_len {w : World} {a : Option Addr} {n c : Nat} {l : List UInt8} (h : SrcAt w (.slice a n c) l) : n = l.length := by
  rcases h with ⟨e, rfl⟩ | ⟨q, c', e, hc⟩
  · simp only [Value.slice.injEq] at e; exact e.2.1
  · simp only [Value.slice.injEq] at e; exact e.2.1

theorem src_string {w : World} {v : Value} {l : List UInt8} (h : SrcAt w v l) : (convert 30 9 v).run Tryd.prog w = .ok (.string ⟨l.toArray⟩) w := by
  rcases h with ⟨rfl, rfl⟩ | ⟨q, c, rfl, hc⟩
  · exact run_convert_bytes_zero w 30 5 Tryd.underlying30 Tryd.underlying5 none 0 9 Tryd.underlying9
  · exact run_convert_bytes_back (P := Tryd.prog) w 30 9 5 q c l Tryd.underlying30 Tryd.underlying5 Tryd.underlying9 hc

end Go.Proofs.YtchhdffehkcecaaDoor
