/-
  What goes out of a round: nothing, a question with the next number, or a word for help.
-/
import Derived.Test.YtnoconampcemoaaO17
namespace Go.Proofs.Ytnoconampcemoaa
open Go Go.RowKit

/-- Whom the last question was for: never for the node itself, while it is open. -/
def SelfOk (P : Pb) : Prop := P.qo = true → P.qn ≠ P.s
/-- What a round lets go out. -/
def TickOuts (P : Pb) (K : Tk) : Prop :=
  (K.o = [] ∧ K.P.qs = P.qs) ∨ ∃ o, K.o = [o] ∧ o.frm = (P.s : Int) ∧ o.to ∈ thereB K.T ∧ o.to ≠ (P.s : Int) ∧ o.about ≠ (P.s : Int) ∧
    ((o.kind = 2 ∧ o.about ≠ o.to ∧ K.P.qs = P.qs) ∨ (o.kind = 0 ∧ o.about = o.to ∧ o.seq = wrap64 (P.qs + 1) ∧ K.P.qs = wrap64 (P.qs + 1)))
theorem others_there {P : Pb} {T : Tb} {x : Int} (h : x ∈ othersL P T) : x ∈ thereB T ∧ x ≠ (P.s : Int) := by
  unfold othersL at h
  obtain ⟨h1, h2⟩ := List.mem_filter.1 h
  exact ⟨h1, by simpa using h2⟩
theorem helpers_there {P : Pb} {T : Tb} {x : Int} (h : x ∈ helpersL P T) : x ∈ thereB T ∧ x ≠ (P.s : Int) ∧ x ≠ (P.qn : Int) := by
  unfold helpersL at h
  obtain ⟨h1, h2⟩ := List.mem_filter.1 h
  obtain ⟨h3, h4⟩ := others_there h1
  exact ⟨h3, h4, by simpa using h2⟩
theorem watchP_same (P : Pb) (m : Mem) (now : Int) : (watchP P m now).s = P.s ∧ (watchP P m now).qs = P.qs ∧ (watchP P m now).qo = P.qo ∧ (watchP P m now).qn = P.qn := by
  unfold watchP
  split <;> exact ⟨rfl, rfl, rfl, rfl⟩
theorem giveP_same (P : Pb) (T : Tb) (now : Int) : (giveP P T now).P.s = P.s ∧ (giveP P T now).P.qs = P.qs ∧ (giveP P T now).P.qo = false ∧ (giveP P T now).o = [] := by
  unfold giveP
  split
  · exact ⟨rfl, rfl, rfl, rfl⟩
  · rename_i m _
    have := watchP_same P.shut (atT (hearB T ⟨m.n, 1, m.i⟩) P.qn) now
    exact ⟨this.1, this.2.1, this.2.2.1, rfl⟩
theorem next_outs {P : Pb} {T : Tb} (hT : TbOk T) (now : Int) (q : Nat) (hS : SelfOk P) : TickOuts P (nextP P T now q) ∧ SelfOk (nextP P T now q).P ∧ (nextP P T now q).P.s = P.s := by
  unfold nextP
  split
  · unfold askP
    split
    · exact ⟨.inl ⟨rfl, rfl⟩, hS, rfl⟩
    · rename_i x hx
      have hm := drawnL_mem hx
      obtain ⟨h1, h2⟩ := others_there hm
      have hl := othersL_low hT hm
      exact ⟨.inr ⟨_, rfl, rfl, h1, h2, h2, .inr ⟨rfl, rfl, rfl, rfl⟩⟩, fun _ => by simp only; omega, rfl⟩
  · exact ⟨.inl ⟨rfl, rfl⟩, hS, rfl⟩
theorem tick_outs {P : Pb} {T : Tb} (hT : TbOk T) (hP : PbOk P) (hS : SelfOk P) (now : Int) (q : Nat) : TickOuts P (tickAny P T now q) ∧ SelfOk (tickAny P T now q).P ∧ (tickAny P T now q).P.s = P.s := by
  unfold tickAny
  split
  case isFalse => exact ⟨.inl ⟨rfl, rfl⟩, hS, rfl⟩
  rename_i hn
  have hT1 : TbOk (mergeB T (goneL P T now)) := mergeB_ok hT (goneTo_fit hT)
  have hS1 : SelfOk (buryP P T now) := hS
  have hP1 : PbOk (buryP P T now) := hP.buryTo T now 64
  unfold tickP
  simp only
  change TickOuts (buryP P T now) _ ∧ _ ∧ _ = (buryP P T now).s
  generalize mergeB T (goneL P T now) = T1 at *
  generalize buryP P T now = P1 at *
  generalize mergeM T (goneL P T now) = N1 at *
  have shutC : ∀ (P2 : Pb) (T2 : Tb) (n2 : List Mem), TbOk T2 → SelfOk P2 → P2.s = P1.s → P2.qs = P1.qs →
      TickOuts P1 ⟨(nextP P2 T2 now q).P, (nextP P2 T2 now q).T, [] ++ (nextP P2 T2 now q).o, N1 ++ n2⟩ ∧ SelfOk (nextP P2 T2 now q).P ∧ (nextP P2 T2 now q).P.s = P1.s := by
    intro P2 T2 n2 h2 h3 h4 h5
    obtain ⟨k1, k2, k3⟩ := next_outs h2 now q h3
    refine ⟨?_, k2, k3.trans h4⟩
    unfold TickOuts at k1 ⊢
    rw [h4, h5] at k1
    exact k1
  unfold openP
  split
  · exact shutC P1 T1 [] hT1 hS1 rfl rfl
  · split
    · obtain ⟨g1, g2, g3, g4⟩ := giveP_same P1 T1 now
      have hgk := giveP_ok hT1 hP1 now
      rw [g4]
      exact shutC _ _ _ hgk.1 (fun h => by rw [g3] at h; cases h) g1 g2
    · rename_i hqo _
      have hqt : P1.qo = true := by simpa using hqo
      split
      · have hno : nextP P1.help T1 now q = ⟨P1.help, T1, [], []⟩ := nextP_no (fun h => by have h2 : P1.qo = false := h.1; rw [hqt] at h2; cases h2)
        unfold helpP
        simp only
        rw [hno]
        refine ⟨?_, hS1, rfl⟩
        cases hd : drawnL (helpersL P1 T1) q with
        | none => exact .inl ⟨rfl, rfl⟩
        | some x =>
          obtain ⟨h1, h2, h3⟩ := helpers_there (drawnL_mem hd)
          have hq := hS1 hqt
          exact .inr ⟨_, rfl, rfl, h1, h2, by simp only; omega, .inl ⟨rfl, fun h => h3 h.symm, rfl⟩⟩
      · have hno : nextP P1 T1 now q = ⟨P1, T1, [], []⟩ := nextP_no (fun h => by rw [hqt] at h; cases h.1)
        simp only
        rw [hno]
        exact ⟨.inl ⟨rfl, rfl⟩, hS1, rfl⟩

end Go.Proofs.Ytnoconampcemoaa
