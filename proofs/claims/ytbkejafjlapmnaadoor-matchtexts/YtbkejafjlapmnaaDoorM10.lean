/-
  What Read of package match makes of a text.
-/
import Derived.Test.YtbkejafjlapmnaaDoorM9
import Derived.Test.YtbkejafjlapmnaaDoorM3
import Derived.Shelf.Small.Wraps
namespace Go.Proofs.YtbkejafjlapmnaaDoor
open Go.RowKit Go.Shelf

/-- The two bytes that a sign may begin with. -/
def eqBang : ByteArray := ⟨#[61, 33]⟩
/-- What is left of a text behind another, and whether it begins with that. -/
def cutV (p q : ByteArray) : ByteArray := ⟨(Lib.trimPrefix p.data.toList q.data.toList).toArray⟩
def cutB (p q : ByteArray) : Bool := Lib.hasPrefix p.data.toList q.data.toList
theorem cut_any (p q : ByteArray) (w : World) : Calls Tryd.prog 32 #[.string p, .string q] w fun e w' => e = .returned (.tuple #[.string (cutV p q), .bool (cutB p q)]) ∧ w' = w :=
  Any.strings_CutPrefix Tryd.lCutPrefix p q w
/-- The matcher of a text whose name ends at k, with the comparison o. -/
def rdM (s : ByteArray) (k o : Nat) : Mt := (s.extract 0 k, o, cutV (s.extract k s.size) (signL o))
/-- It stands there and may be. -/
def rdOk (s : ByteArray) (k o : Nat) : Prop := cutB (s.extract k s.size) (signL o) = true ∧ mErr (rdM s k o) = 0

theorem eqBang_any (s : ByteArray) (w : World) (hs : s.size < 4294967281) :
    Calls Tryd.prog 31 #[.string s, .string eqBang] w fun e w' => e = .returned (.int .i64 (Lib.indexAny s.data.toList eqBang.data.toList)) ∧ Below w.heap.size w w' :=
  idxAny_any s eqBang w rfl (by intro i hi; have : i < 2 := hi; rcases (by omega : i = 0 ∨ i = 1) with rfl | rfl; exact (by decide : (61 : UInt8).toNat < 128); exact (by decide : (33 : UInt8).toNat < 128)) hs

/-- The comparisons in the order in which they are tried. -/
def opAt (i : Nat) : Nat := if i = 0 then 2 else if i = 1 then 3 else if i = 2 then 0 else 1
/-- What Read tells of a text whose first = or ! stands at k. -/
def RdTells (s : ByteArray) (k : Nat) (e : Ending) : Prop :=
  (∃ i, i < 4 ∧ (∀ j, j < i → ¬ rdOk s k (opAt j)) ∧ rdOk s k (opAt i) ∧ e = .returned (.tuple #[.agg #[.string (rdM s k (opAt i)).1, .int .u8 ((rdM s k (opAt i)).2.1 : Int), .string (rdM s k (opAt i)).2.2], .int .i64 0])) ∨
  ((∀ j, j < 4 → ¬ rdOk s k (opAt j)) ∧ e = .returned (.tuple #[.agg #[.string ⟨#[]⟩, .int .u8 0, .string ⟨#[]⟩], .int .i64 4]))

theorem ops_under : Tryd.prog.underlying 62 = some (.array 4 22) := by kernel_rfl
theorem ops_at (i : Nat) (z : Int) (hz : z = (i : Int)) (hi : i < 4) (w : World) : (Instr.index 62 (.agg #[.int .u8 2, .int .u8 3, .int .u8 0, .int .u8 1]) (.int .i64 z)).run Tryd.prog w = .ok (.int .u8 (opAt i : Int)) w := by
  subst hz
  rcases (by omega : i = 0 ∨ i = 1 ∨ i = 2 ∨ i = 3) with rfl | rfl | rfl | rfl <;> simp [Instr.index, run_underlying ops_under, asIntOf, part, opAt, go_sem]

set_option maxRecDepth 20000 in
set_option maxHeartbeats 2000000 in
theorem mRead_any (s : ByteArray) (w : World) (htab : TabW w) (hs : s.size < 4294967281) (k : Nat) (hk : Lib.indexAny s.data.toList eqBang.data.toList = k) (hks : k < s.size) :
    Calls Tryd.prog 10 #[.string s] w fun e w' => RdTells s k e ∧ Below w.heap.size w w' := by
  have HI := Lib.hid (fun u => eqBang_any s u hs)
  rw [hk] at HI
  have HC := Lib.hid (fun n o v u (hu : TabW u) => mCheck_any n o v u hu)
  have HS := Lib.hid (fun o u => msign_any o u)
  have HP := Lib.hid (fun p q u => cut_any p q u)
  have htl := htab.lt
  have hbA := Lib.hid (fun (o : Obj) => (Below.refl w.heap.size w).alloc (Nat.le_refl _) o)
  have hk1 : (k : Int) ≤ (s.size : Int) := by omega
  clear hk
  go_enter Tryd.func10, Tryd.ntmps10
  go_wp2_with (go_at_call 31; refine (HI.out _).mono ?_; rintro e w1 ⟨rfl, hb1⟩; refine Hid.out ?_)
  refine Lib.hid ?_
  have hb2 : Below w.heap.size w w1 := (hbA.out _).trans (hb1.mono (by simp))
  have hm1 := (hb1.block w.heap.size (by simp)).trans (heap_new' w _)
  clear hb1 hbA
  go_wp2
  go_loopw [16] (fun i wr => ∃ n : Nat, n ≤ 4 ∧ i = .int .i64 n ∧ Below w.heap.size w wr ∧ wr.heap[w.heap.size]? = some (.cells #[.string ⟨#[]⟩, .int .u8 0, .string ⟨#[]⟩] 24) ∧ Hid (∀ j, j < n → ¬ rdOk s k (opAt j))) (fun i _ => 4 - (intOf i).toNat)
  case atStart => exact ⟨0, Nat.zero_le _, rfl, hb2, hm1, Lib.hid fun j hj => absurd hj (Nat.not_lt_zero _)⟩
  case round =>
    obtain ⟨n, hn, rfl, hb, hm, HN⟩ := hrel
    have HT := Lib.hid (htab.on hb htl)
    have c0 : wr.cell? ⟨w.heap.size, 0, none⟩ = some (.string ⟨#[]⟩) := by simp [World.cell?, hm]
    have c1 : wr.cell? ⟨w.heap.size, 1, none⟩ = some (.int .u8 0) := by simp [World.cell?, hm]
    have c2 : wr.cell? ⟨w.heap.size, 2, none⟩ = some (.string ⟨#[]⟩) := by simp [World.cell?, hm]
    have f0 : wr.frozen? ⟨w.heap.size, 0, none⟩ = false := by simp [World.frozen?, hm]
    have f1 : wr.frozen? ⟨w.heap.size, 1, none⟩ = false := by simp [World.frozen?, hm]
    have f2 : wr.frozen? ⟨w.heap.size, 2, none⟩ = false := by simp [World.frozen?, hm]
    clear hb2 hm1
    by_cases h4 : n = 4
    · have hlt : ¬ ((n : Int) < 4) := by omega
      have HN4 : Hid (∀ j, j < 4 → ¬ rdOk s k (opAt j)) := by rw [h4] at HN; exact HN
      clear h4 hn HN
      go_wp2
      exact bodyPost_ret (v := .tuple #[.agg #[.string ⟨#[]⟩, .int .u8 0, .string ⟨#[]⟩], .int .i64 4]) (by simp [results, Tryd.results10, go_sem, c0, c1, c2]) rfl ⟨Or.inr ⟨HN4.out, rfl⟩, ((hb.setCell (by simp) _).setCell (by simp) _).setCell (by simp) _⟩
    · have hlt : (n : Int) < 4 := by omega
      have hix := ops_at n n rfl (by omega)
      have HN4 := Lib.hid h4
      clear h4 hn
      generalize ho : opAt n = o at hix
      have HO := Lib.hid ho
      clear ho
      go_wp2_with fail
      go_quiet (first
        | (go_at_call 33; exact Calls.quiet_of_same (HS.out _ _))
        | (go_at_call 32; exact Calls.quiet_of_same (HP.out _ _ _)))
      have hb2 : Below w.heap.size w (wr.drewN nq) := below_drewN hb _
      have hm2 : (wr.drewN nq).heap[w.heap.size]? = some (.cells #[.string ⟨#[]⟩, .int .u8 0, .string ⟨#[]⟩] 24) := hm
      clear hb hm c0 c1 c2 f0 f1 f2 HT
      generalize wr.drewN nq = w2 at *
      clear wr
      have hsz := (Array.getElem?_eq_some_iff.1 hm2).1
      have hbN := Lib.hid (fun (o : Obj) => hb2.alloc (Nat.le_of_lt hsz) o)
      have hmN := Lib.hid (fun (o : Obj) => (((Below.refl w2.heap.size w2).alloc (Nat.le_refl _) o).block w.heap.size hsz).trans hm2)
      have HT := Lib.hid (fun (o : Obj) => htab.on (hbN.out o) htl)
      clear hb2 hm2
      cases hB : cutB (s.extract k s.size) (signL o) with
      | false =>
        have HR := Lib.hid (upto_succ HN.out (fun h => by rw [HO.out] at h; rw [h.1] at hB; cases hB))
        go_wp2
        go_roundw
        case rel => exact ⟨n + 1, by omega, by go_num, hbN.out _, hmN.out _, HR⟩
        case measure => show 4 - ((n : Int) + 1).toNat < 4 - (n : Int).toNat; omega
      | true =>
        have HC1 := Lib.hid (fun u => HC.out (s.extract 0 k) o (cutV (s.extract k s.size) (signL o)) u)
        clear HC
        by_cases hE : mErr (s.extract 0 k, o, cutV (s.extract k s.size) (signL o)) = 0
        · have HY : Hid (rdOk s k (opAt n)) := Lib.hid (by rw [HO.out]; exact ⟨hB, hE⟩)
          rw [hE] at HC1
          clear hE hB
          go_wp2_with (go_at_call 15; refine (HC1.out _ (HT.out _)).mono ?_; rintro e w3 ⟨rfl, hb3⟩; refine Hid.out ?_)
          refine Lib.hid ?_
          have hb4 := (hbN.out _).trans (hb3.mono (by simp; omega))
          have hm4 := (hb3.block w.heap.size (by simp; omega)).trans (hmN.out _)
          have hx4 := (hb3.block w2.heap.size (by simp)).trans (heap_new' w2 _)
          have hne : w.heap.size ≠ w2.heap.size := by omega
          have c0 : w3.cell? ⟨w.heap.size, 0, none⟩ = some (.string ⟨#[]⟩) := by simp [World.cell?, hm4]
          have c1 : w3.cell? ⟨w.heap.size, 1, none⟩ = some (.int .u8 0) := by simp [World.cell?, hm4]
          have c2 : w3.cell? ⟨w.heap.size, 2, none⟩ = some (.string ⟨#[]⟩) := by simp [World.cell?, hm4]
          have f0 : w3.frozen? ⟨w.heap.size, 0, none⟩ = false := by simp [World.frozen?, hm4]
          have f1 : w3.frozen? ⟨w.heap.size, 1, none⟩ = false := by simp [World.frozen?, hm4]
          have f2 : w3.frozen? ⟨w.heap.size, 2, none⟩ = false := by simp [World.frozen?, hm4]
          have d0 : w3.cell? ⟨w2.heap.size, 0, none⟩ = some (.string (s.extract 0 k)) := by simp [World.cell?, hx4]
          have d1 : w3.cell? ⟨w2.heap.size, 1, none⟩ = some (.int .u8 (o : Int)) := by simp [World.cell?, hx4]
          have d2 : w3.cell? ⟨w2.heap.size, 2, none⟩ = some (.string (cutV (s.extract k s.size) (signL o))) := by simp [World.cell?, hx4]
          clear hb3 hm4 hx4
          go_wp2
          refine bodyPost_ret (v := .tuple #[.agg #[.string (s.extract 0 k), .int .u8 (o : Int), .string (cutV (s.extract k s.size) (signL o))], .int .i64 0]) (by simp [results, Tryd.results10, go_sem, c0, c1, c2]) rfl ⟨Or.inl ⟨n, by omega, HN.out, HY.out, ?_⟩, ((hb4.setCell (by simp) _).setCell (by simp) _).setCell (by simp) _⟩
          rw [HO.out]
          rfl
        · have HR := Lib.hid (upto_succ HN.out (fun h => by rw [HO.out] at h; exact hE h.2))
          generalize mErr (s.extract 0 k, o, cutV (s.extract k s.size) (signL o)) = E at *
          go_wp2_with (go_at_call 15; refine (HC1.out _ (HT.out _)).mono ?_; rintro e w3 ⟨rfl, hb3⟩; refine Hid.out ?_)
          refine Lib.hid ?_
          have hb4 := (hbN.out _).trans (hb3.mono (by simp; omega))
          have hm4 := (hb3.block w.heap.size (by simp; omega)).trans (hmN.out _)
          clear hb3
          go_wp2
          go_roundw
          case rel => exact ⟨n + 1, by omega, by go_num, hb4, hm4, HR⟩
          case measure => show 4 - ((n : Int) + 1).toNat < 4 - (n : Int).toNat; omega

set_option maxRecDepth 20000 in
set_option maxHeartbeats 1000000 in
theorem mRead_none (s : ByteArray) (w : World) (hs : s.size < 4294967281) (hk : Lib.indexAny s.data.toList eqBang.data.toList = -1) :
    Calls Tryd.prog 10 #[.string s] w fun e w' => e = .returned (.tuple #[.agg #[.string ⟨#[]⟩, .int .u8 0, .string ⟨#[]⟩], .int .i64 4]) ∧ Below w.heap.size w w' := by
  have HI := Lib.hid (fun u => eqBang_any s u hs)
  rw [hk] at HI
  have hbA := Lib.hid (fun (o : Obj) => (Below.refl w.heap.size w).alloc (Nat.le_refl _) o)
  clear hk
  go_enter Tryd.func10, Tryd.ntmps10
  go_wp2_with (go_at_call 31; refine (HI.out _).mono ?_; rintro e w1 ⟨rfl, hb1⟩; refine Hid.out ?_)
  refine Lib.hid ?_
  have hb2 : Below w.heap.size w w1 := (hbA.out _).trans (hb1.mono (by simp))
  have hm := (hb1.block w.heap.size (by simp)).trans (heap_new' w _)
  have c0 : w1.cell? ⟨w.heap.size, 0, none⟩ = some (.string ⟨#[]⟩) := by simp [World.cell?, hm]
  have c1 : w1.cell? ⟨w.heap.size, 1, none⟩ = some (.int .u8 0) := by simp [World.cell?, hm]
  have c2 : w1.cell? ⟨w.heap.size, 2, none⟩ = some (.string ⟨#[]⟩) := by simp [World.cell?, hm]
  have f0 : w1.frozen? ⟨w.heap.size, 0, none⟩ = false := by simp [World.frozen?, hm]
  have f1 : w1.frozen? ⟨w.heap.size, 1, none⟩ = false := by simp [World.frozen?, hm]
  have f2 : w1.frozen? ⟨w.heap.size, 2, none⟩ = false := by simp [World.frozen?, hm]
  clear hb1 hbA hm
  go_wp2
  exact bodyPost_ret (v := .tuple #[.agg #[.string ⟨#[]⟩, .int .u8 0, .string ⟨#[]⟩], .int .i64 4]) (by simp [results, Tryd.results10, go_sem, c0, c1, c2]) rfl ⟨rfl, ((hb2.setCell (by simp) _).setCell (by simp) _).setCell (by simp) _⟩

end Go.Proofs.YtbkejafjlapmnaaDoor
