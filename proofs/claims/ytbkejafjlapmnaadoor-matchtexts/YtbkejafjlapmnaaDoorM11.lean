/-
  A matcher and its text, plainly: what is read from a text, and a matcher's text read.
-/
import Derived.Test.YtbkejafjlapmnaaDoorM10
namespace Go.Proofs.YtbkejafjlapmnaaDoor
open Go.RowKit Go.Shelf

theorem data_ext {a b : ByteArray} (h : a.data.toList = b.data.toList) : a = b := by
  obtain ⟨⟨x⟩⟩ := a
  obtain ⟨⟨y⟩⟩ := b
  obtain rfl : x = y := h
  rfl
theorem data_app (a b : ByteArray) : (a ++ b).data.toList = a.data.toList ++ b.data.toList := by simp
theorem cutB_iff (p q : ByteArray) : cutB p q = true ↔ ∃ r, p.data.toList = q.data.toList ++ r := by
  unfold cutB Lib.hasPrefix
  rw [List.isPrefixOf_iff_prefix]
  exact ⟨fun ⟨r, h⟩ => ⟨r, h.symm⟩, fun ⟨r, h⟩ => ⟨r, h.symm⟩⟩
theorem cutV_data {p q : ByteArray} {r : List UInt8} (h : p.data.toList = q.data.toList ++ r) : (cutV p q).data.toList = r := by
  have hb : Lib.hasPrefix p.data.toList q.data.toList = true := (cutB_iff p q).2 ⟨r, h⟩
  show (Lib.trimPrefix p.data.toList q.data.toList) = r
  unfold Lib.trimPrefix
  rw [if_pos hb, h]
  simp
theorem text_data (m : Mt) : (textM m).data.toList = m.1.data.toList ++ ((signL m.2.1).data.toList ++ m.2.2.data.toList) := by
  unfold textM
  rw [data_app, data_app, List.append_assoc]
theorem text_size (m : Mt) : (textM m).size = m.1.size + ((signL m.2.1).size + m.2.2.size) := by
  have h := congrArg List.length (text_data m)
  rw [List.length_append, List.length_append, ← Lib.size_eq, ← Lib.size_eq, ← Lib.size_eq, ← Lib.size_eq] at h
  exact h

/-- What is read from a text has that text. -/
theorem rd_text {s : ByteArray} {k o : Nat} (h : cutB (s.extract k s.size) (signL o) = true) : textM (rdM s k o) = s := by
  obtain ⟨r, hr⟩ := (cutB_iff _ _).1 h
  refine data_ext ?_
  rw [text_data]
  show (s.extract 0 k).data.toList ++ ((signL o).data.toList ++ (cutV (s.extract k s.size) (signL o)).data.toList) = _
  rw [cutV_data hr, ← hr, Lib.extract_data, Lib.extract_data]
  have h2 : List.take (s.size - k) (List.drop k s.data.toList) = List.drop k s.data.toList := List.take_of_length_le (by rw [List.length_drop, Lib.size_eq]; exact Nat.le_refl _)
  rw [h2]
  simp

/-- A name has neither = nor !. -/
theorem name_no {n : ByteArray} (h : NameOk n) (j : Nat) (b : UInt8) (hb : n.data.toList[j]? = some b) : eqBang.data.toList.contains b = false := by
  obtain ⟨hj, rfl⟩ := List.getElem?_eq_some_iff.1 hb
  have hj2 : j < n.size := by simpa using hj
  have h1 := h.2.2 j hj2
  have e : byteN n j = (n.data.toList[j]'hj).toNat := by simp [byteN, hj2]; try rfl
  rw [e] at h1
  show [(61 : UInt8), 33].contains _ = false
  rw [Bool.eq_false_iff]
  intro hc
  have hm : n.data.toList[j]'hj = 61 ∨ n.data.toList[j]'hj = 33 := by simpa using hc
  rcases hm with hm | hm <;> (rw [hm] at h1; revert h1; decide)

/-- The first byte of a sign is = or !. -/
theorem sign_first (o : Nat) (ho : o ≤ 3) : ∃ b r, (signL o).data.toList = b :: r ∧ eqBang.data.toList.contains b = true := by
  rcases (by omega : o = 0 ∨ o = 1 ∨ o = 2 ∨ o = 3) with rfl | rfl | rfl | rfl
  · exact ⟨61, [], rfl, rfl⟩
  · exact ⟨33, [61], rfl, rfl⟩
  · exact ⟨61, [126], rfl, rfl⟩
  · exact ⟨33, [126], rfl, rfl⟩

theorem text_index {m : Mt} (hn : NameOk m.1) (ho : m.2.1 ≤ 3) : Lib.indexAny (textM m).data.toList eqBang.data.toList = (m.1.size : Int) := by
  obtain ⟨b, r, hs, hb⟩ := sign_first m.2.1 ho
  refine Lib.indexAny_hit (x := b) ?_ ?_ hb
  · intro j c hj hc
    rw [text_data, List.getElem?_append_left (by rw [← Lib.size_eq]; exact hj)] at hc
    exact name_no hn j c hc
  · rw [text_data, List.getElem?_append_right (by rw [← Lib.size_eq]; exact Nat.le_refl _), ← Lib.size_eq, Nat.sub_self, hs]
    rfl

theorem rd_back (m : Mt) : rdM (textM m) m.1.size m.2.1 = m ∧ cutB ((textM m).extract m.1.size (textM m).size) (signL m.2.1) = true := by
  have h1 : ((textM m).extract m.1.size (textM m).size).data.toList = (signL m.2.1).data.toList ++ m.2.2.data.toList := by
    rw [Lib.extract_data, text_data, Lib.size_eq m.1, List.drop_left]
    refine List.take_of_length_le ?_
    rw [text_size, Lib.size_eq m.1, List.length_append, ← Lib.size_eq, ← Lib.size_eq]
    omega
  refine ⟨?_, (cutB_iff _ _).2 ⟨_, h1⟩⟩
  obtain ⟨n, o, v⟩ := m
  have h2 : (textM (n, o, v)).extract 0 n.size = n := data_ext (by rw [Lib.extract_data, text_data, Lib.size_eq n]; simp)
  have h3 : cutV ((textM (n, o, v)).extract n.size (textM (n, o, v)).size) (signL o) = v := data_ext (cutV_data h1)
  show (_, _, _) = _
  rw [h2, h3]

end Go.Proofs.YtbkejafjlapmnaaDoor
