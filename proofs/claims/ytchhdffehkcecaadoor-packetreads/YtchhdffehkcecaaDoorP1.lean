/-
  Members and packets; what headMayBe, membersMayBe and checkEntries of package packet tell.
-/
import Derived.Test.YtchhdffehkcecaaDoorE3
import Derived.Test.YtchhdffehkcecaaDoorEOpen
namespace Go.Proofs.YtchhdffehkcecaaDoor
open Go Go.RowKit

/-- A member. -/
structure Mem where
  n : Int
  s : Int
  i : Int
def encM (m : Mem) : List Value := [.int .u16 m.n, .int .u8 m.s, .int .i64 m.i]
def MemsAt (w : World) (a : Option Addr) (l : List Mem) : Prop := 0 < l.length → ∃ b o, a = some ⟨b, o, none⟩ ∧ b < w.heap.size ∧ ∀ i (hi : i < l.length), ∀ j v, (encM l[i])[j]? = some v → w.cell? ⟨b, o + i * 3 + j, none⟩ = some v
theorem MemsAt.below {w w' : World} {a : Option Addr} {l : List Mem} {B : Nat} (h : MemsAt w a l) (hb : Below B w w') (hB : w.heap.size ≤ B) : MemsAt w' a l := fun hn => by
  obtain ⟨b, o, rfl, hlt, hc⟩ := h hn
  exact ⟨b, o, rfl, Nat.lt_of_lt_of_le hlt (hb.size), fun i hi j v hv => (hb.cell (p := ⟨b, _, none⟩) (Nat.lt_of_lt_of_le hlt hB)).trans (hc i hi j v hv)⟩
theorem MemsAt.on {w w' : World} {a : Option Addr} {l : List Mem} (h : MemsAt w a l) (hb : Below w.heap.size w w') : MemsAt w' a l := h.below hb (Nat.le_refl _)
theorem MemsAt.cells {w : World} {a : Option Addr} {l : List Mem} (h : MemsAt w a l) (k : Nat) (hk : k < l.length) : ∃ b o, a = some ⟨b, o, none⟩ ∧ b < w.heap.size ∧
    w.cell? ⟨b, o + k * 3, none⟩ = some (.int .u16 l[k].n) ∧ w.cell? ⟨b, o + k * 3 + 1, none⟩ = some (.int .u8 l[k].s) ∧ w.cell? ⟨b, o + k * 3 + 2, none⟩ = some (.int .i64 l[k].i) := by
  obtain ⟨b, o, rfl, hlt, hc⟩ := h (by omega)
  exact ⟨b, o, rfl, hlt, hc k hk 0 _ rfl, hc k hk 1 _ rfl, hc k hk 2 _ rfl⟩
theorem EntsAt.belowP {w w' : World} {a : Option Addr} {l : List Ent} {B : Nat} (h : EntsAt w a l) (hb : Below B w w') (hB : w.heap.size ≤ B) : EntsAt w' a l := fun hn => by
  obtain ⟨b, o, rfl, hlt, hc⟩ := h hn
  exact ⟨b, o, rfl, Nat.lt_of_lt_of_le hlt (hb.size), fun i hi j v hv => (hb.cell (p := ⟨b, _, none⟩) (Nat.lt_of_lt_of_le hlt hB)).trans (hc i hi j v hv)⟩
theorem EntsAt.onP {w w' : World} {a : Option Addr} {l : List Ent} (h : EntsAt w a l) (hb : Below w.heap.size w w') : EntsAt w' a l := h.belowP hb (Nat.le_refl _)
theorem EntsAt.cellsP {w : World} {a : Option Addr} {l : List Ent} (h : EntsAt w a l) (k : Nat) (hk : k < l.length) : ∃ b o, a = some ⟨b, o, none⟩ ∧ b < w.heap.size ∧
    w.cell? ⟨b, o + k * 5, none⟩ = some (.string l[k].k) ∧ w.cell? ⟨b, o + k * 5 + 1, none⟩ = some (.int .i64 l[k].t) ∧ w.cell? ⟨b, o + k * 5 + 2, none⟩ = some (.int .u16 l[k].o) ∧ w.cell? ⟨b, o + k * 5 + 3, none⟩ = some (.string l[k].v) ∧ w.cell? ⟨b, o + k * 5 + 4, none⟩ = some (.int .i64 l[k].u) := by
  obtain ⟨b, o, rfl, hlt, hc⟩ := h (by omega)
  exact ⟨b, o, rfl, hlt, hc k hk 0 _ rfl, hc k hk 1 _ rfl, hc k hk 2 _ rfl, hc k hk 3 _ rfl, hc k hk 4 _ rfl⟩
/-- A packet. -/
structure Pk where
  k : Int
  f : Int
  a : Int
  q : Int
  ms : List Mem
  es : List Ent
def badM (m : Mem) : Bool := decide (64 ≤ m.n) || (decide (2 < m.s) || (decide (m.i < 0) || decide (1073741824 < m.i)))
def headP (k f a q : Int) : Bool := decide (k ≤ 4) && (decide (f < 64) && (decide (a < 64) && (decide (0 ≤ q) && decide (q ≤ 1099511627776))))
def memsP (l : List Mem) : Bool := decide (l.length ≤ 64) && !(l.any badM)
def entsP : List Ent → Int
  | [] => 0
  | x :: l => if checkEn x = 0 then entsP l else checkEn x
theorem entsP_zero {l : List Ent} (h : ∀ x ∈ l, checkEn x = 0) : entsP l = 0 := by
  induction l with
  | nil => rfl
  | cons x l ih => rw [entsP, if_pos (h x (by simp)), ih (fun y hy => h y (by simp [hy]))]
theorem entsP_first {l : List Ent} {k : Nat} (hk : k < l.length) (h : ∀ j (hj : j < l.length), j < k → checkEn l[j] = 0) (hn : checkEn l[k] ≠ 0) : entsP l = checkEn l[k] := by
  induction l generalizing k with
  | nil => simp at hk
  | cons x l ih =>
    cases k with
    | zero => rw [entsP, if_neg (show ¬ checkEn x = 0 from hn)]; rfl
    | succ k =>
      rw [entsP, if_pos (show checkEn x = 0 from h 0 (by simp) (by omega))]
      simp only [List.length_cons] at hk
      exact ih (k := k) (by omega) (fun j hj hjk => h (j + 1) (by simp only [List.length_cons]; omega) (by omega)) hn
theorem entsP_all {l : List Ent} (h : entsP l = 0) : ∀ x ∈ l, checkEn x = 0 := by
  induction l with
  | nil => intro x hx; cases hx
  | cons y l ih =>
    rw [entsP] at h
    split at h
    · rename_i hy
      intro x hx
      rcases List.mem_cons.1 hx with rfl | hx
      · exact hy
      · exact ih h x hx
    · rename_i hy
      exact absurd h hy

set_option maxRecDepth 100000 in
set_option maxHeartbeats 4000000 in
theorem pHead_any (k f a q : Int) (am ae : Option Addr) (nm cm ne ce : Nat) (w : World) :
    Calls Tryd.prog 22 #[.agg #[.int .u8 k, .int .u16 f, .int .u16 a, .int .i64 q, .slice am nm cm, .slice ae ne ce]] w fun e w' => e = .returned (.bool (headP k f a q)) ∧ Below w.heap.size w w' := by
  have HQ := Lib.hid ((Below.refl w.heap.size w).alloc (Nat.le_refl _) (.cells #[.int .u8 k, .int .u16 f, .int .u16 a, .int .i64 q, .slice am nm cm, .slice ae ne ce] 26))
  unfold headP
  by_cases h0 : k ≤ 4
  case neg =>
    go_enter Tryd.func22, Tryd.ntmps22
    go_wp2
    go_ret
    exact ⟨by first | (simp; done) | (simp; omega), HQ.out⟩
  by_cases h1 : f < 64
  case neg =>
    go_enter Tryd.func22, Tryd.ntmps22
    go_wp2
    go_ret
    exact ⟨by first | (simp; done) | (simp; omega), HQ.out⟩
  by_cases h2 : a < 64
  case neg =>
    go_enter Tryd.func22, Tryd.ntmps22
    go_wp2
    go_ret
    exact ⟨by first | (simp; done) | (simp; omega), HQ.out⟩
  by_cases h3 : 0 ≤ q
  case neg =>
    go_enter Tryd.func22, Tryd.ntmps22
    go_wp2
    go_ret
    exact ⟨by first | (simp; done) | (simp; omega), HQ.out⟩
  by_cases h4 : q ≤ 1099511627776
  · go_enter Tryd.func22, Tryd.ntmps22
    go_wp2
    go_ret
    exact ⟨by first | (simp; done) | (simp; omega), HQ.out⟩
  · go_enter Tryd.func22, Tryd.ntmps22
    go_wp2
    go_ret
    exact ⟨by first | (simp; done) | (simp; omega), HQ.out⟩
/-- A block of one member. -/
def MBlk (w : World) (B : Nat) (m : Mem) : Prop := w.heap[B]? = some (.cells #[.int .u16 m.n, .int .u8 m.s, .int .i64 m.i] 45 (0, 0))
theorem MBlk.lt {w : World} {B : Nat} {m : Mem} (h : MBlk w B m) : B < w.heap.size := ltE h
theorem MBlk.on {w w' : World} {B : Nat} {m : Mem} (h : MBlk w B m) (hb : Below w.heap.size w w') : MBlk w' B m := (hb.block B h.lt).trans h
theorem MBlk.new (w : World) (m : Mem) : MBlk (w.alloc (.cells #[.int .u16 m.n, .int .u8 m.s, .int .i64 m.i] 45)) w.heap.size m := newE w _
theorem MBlk.c0 {w : World} {B : Nat} {m : Mem} (h : MBlk w B m) : w.cell? ⟨B, 0, none⟩ = some (.int .u16 m.n) := cellE h
theorem MBlk.c1 {w : World} {B : Nat} {m : Mem} (h : MBlk w B m) : w.cell? ⟨B, 1, none⟩ = some (.int .u8 m.s) := cellE h
theorem MBlk.c2 {w : World} {B : Nat} {m : Mem} (h : MBlk w B m) : w.cell? ⟨B, 2, none⟩ = some (.int .i64 m.i) := cellE h
set_option maxRecDepth 100000 in
set_option maxHeartbeats 4000000 in
theorem pMembersX_any (m : Mem) (w : World) :
    Calls Tryd.prog 46 #[.agg #[.int .u16 m.n, .int .u8 m.s, .int .i64 m.i]] w fun e w' => e = .returned (.bool (badM m)) ∧ Below w.heap.size w w' := by
  have HQ := Lib.hid ((Below.refl w.heap.size w).alloc (Nat.le_refl _) (.cells #[.int .u16 m.n, .int .u8 m.s, .int .i64 m.i] 45))
  unfold badM
  obtain ⟨n, s, i⟩ := m
  dsimp only at *
  by_cases h0 : 64 ≤ n
  · go_enter Tryd.func46, Tryd.ntmps46
    go_wp2
    go_ret
    exact ⟨by first | (simp; done) | (simp; omega), HQ.out⟩
  by_cases h1 : 2 < s
  · go_enter Tryd.func46, Tryd.ntmps46
    go_wp2
    go_ret
    exact ⟨by first | (simp; done) | (simp; omega), HQ.out⟩
  by_cases h2 : i < 0
  · go_enter Tryd.func46, Tryd.ntmps46
    go_wp2
    go_ret
    exact ⟨by first | (simp; done) | (simp; omega), HQ.out⟩
  by_cases h3 : 1073741824 < i
  · go_enter Tryd.func46, Tryd.ntmps46
    go_wp2
    go_ret
    exact ⟨by first | (simp; done) | (simp; omega), HQ.out⟩
  go_enter Tryd.func46, Tryd.ntmps46
  go_wp2
  go_ret
  exact ⟨by first | (simp; done) | (simp; omega), HQ.out⟩
/-- Where the first is that is bad; -1 if none. -/
def IdxM (l : List Mem) (w : World) (e : Ending) (w' : World) : Prop := (∃ r : Int, e = .returned (.int .i64 r) ∧ decide (0 ≤ r) = l.any badM) ∧ Below w.heap.size w w'
set_option maxRecDepth 100000 in
set_option maxHeartbeats 4000000 in
theorem idxMem_any (am : Option Addr) (c : Nat) (l : List Mem) (w : World) (he : MemsAt w am l) (n : Nat) (hn : n = l.length) (hl : n ≤ 1000) :
    Calls Tryd.prog 66 #[.slice am n c, .func (.func 46) #[] #[]] w (IdxM l w) := by
  have eg : ∀ args w, (callFunc 46 args).run Tryd.prog w = .ok (.enter 46 args) w := enters_of Tryd.func46 (by kernel_rfl) rfl
  have HN := Lib.hid hn
  have HE := Lib.hid he
  clear hn he
  unfold IdxM
  go_enter Tryd.func66, Tryd.ntmps66
  go_wp2
  go_loopw [8] (fun i wr => ∃ k : Nat, k ≤ n ∧ i = .int .i64 k ∧ Hid (∀ j (hj : j < l.length), j < k → badM l[j] = false) ∧ Hid (Below w.heap.size w wr)) (fun i _ => n - (intOf i).toNat)
  case atStart => exact ⟨0, Nat.zero_le _, rfl, Lib.hid (fun j _ h => by omega), Lib.hid (Below.refl _ _)⟩
  case round =>
    obtain ⟨k, hk, rfl, HF, HB⟩ := hrel
    by_cases hlt : k < n
    · have hkl : (k : Int) < (n : Int) := by omega
      have hkx : k < l.length := by have := HN.out; omega
      obtain ⟨b, o, rfl, hb, c0, c1, c2⟩ := (HE.out.on HB.out).cells k hkx
      have HC := Lib.hid (pMembersX_any l[k] wr)
      have HS : Hid (badM l[k] = false → ∀ j (hj : j < l.length), j < k + 1 → badM l[j] = false) := Lib.hid (fun h j hj hjk => by
        by_cases e : j = k
        · subst e; exact h
        · exact HF.out j hj (by omega))
      have HT : Hid (badM l[k] = true → l.any badM = true) := Lib.hid (fun h => List.any_eq_true.2 ⟨_, List.getElem_mem hkx, h⟩)
      generalize badM l[k] = q at *
      generalize l[k] = x at *
      obtain ⟨nx, sx, ix⟩ := x
      dsimp only at c0 c1 c2 HC
      clear hb hkx HF
      cases q with
      | true =>
        go_wp2_with (go_at_fn 46; refine HC.out.mono ?_; rintro e w2 ⟨rfl, q2⟩; refine Hid.out ?_)
        refine Lib.hid ?_
        have HQ := Lib.hid (And.intro (HT.out (by simp)) (HB.out.trans (q2.mono HB.out.size)))
        clear q2 c0 c1 c2 HC HS HT HB
        go_wp2
        go_ret
        exact ⟨⟨k, rfl, by rw [HQ.out.1]; simp⟩, HQ.out.2⟩
      | false =>
        go_wp2_with (go_at_fn 46; refine HC.out.mono ?_; rintro e w2 ⟨rfl, q2⟩; refine Hid.out ?_)
        refine Lib.hid ?_
        have HQ := Lib.hid (HB.out.trans (q2.mono HB.out.size))
        have HS2 := Lib.hid (HS.out (by simp))
        clear q2 c0 c1 c2 HC HS HT HB
        go_wp2
        go_roundw
        case rel => exact ⟨k + 1, by omega, by go_num, HS2, HQ⟩
        case measure => simp [intOf]; omega
    · have hkl : ¬ (k : Int) < (n : Int) := by omega
      have HQ : Hid ((l.any badM = false) ∧ Below w.heap.size w wr) := Lib.hid ⟨by
        rw [List.any_eq_false]
        intro x hx
        obtain ⟨j, hj, rfl⟩ := List.getElem_of_mem hx
        rw [HF.out j hj (by have := HN.out; omega)]
        simp, HB.out⟩
      clear HF HB
      go_wp2
      go_ret
      exact ⟨⟨-1, rfl, by rw [HQ.out.1]; simp⟩, HQ.out.2⟩
set_option maxRecDepth 100000 in
set_option maxHeartbeats 4000000 in
theorem pMembers_any (am : Option Addr) (c : Nat) (l : List Mem) (w : World) (he : MemsAt w am l) (n : Nat) (hn : n = l.length) :
    Calls Tryd.prog 23 #[.slice am n c] w fun e w' => e = .returned (.bool (memsP l)) ∧ Below w.heap.size w w' := by
  unfold memsP
  rw [← hn]
  by_cases h : n ≤ 64
  · have hI := idxMem_any am c l w he n hn (by omega)
    have HI := Lib.hid hI
    have hk : (n : Int) ≤ 64 := by omega
    clear hI he hn
    obtain ⟨q, hq⟩ : ∃ q, l.any badM = q := ⟨_, rfl⟩
    rw [hq]
    have HM : Hid (Calls Tryd.prog 45 #[.slice am n c, .func (.func 46) #[] #[]] w fun e w' => e = .returned (.bool q) ∧ Below w.heap.size w w') := Lib.hid (by
      clear hk h
      go_enter Tryd.func45, Tryd.ntmps45
      go_wp2_with (go_at_call 66; refine HI.out.mono ?_; rintro e w2 ⟨⟨r, rfl, hr⟩, q2⟩; refine Hid.out ?_)
      refine Lib.hid ?_
      have HQ := Lib.hid (And.intro (hr.trans hq) q2)
      clear hr q2 hq
      go_wp2
      go_ret
      exact ⟨by show Ending.returned (.bool (decide (0 ≤ r))) = _; rw [HQ.out.1], HQ.out.2⟩)
    clear HI hq
    go_enter Tryd.func23, Tryd.ntmps23
    go_wp2_with (go_at_call 45; refine HM.out.mono ?_; rintro e w2 ⟨rfl, q2⟩; refine Hid.out ?_)
    refine Lib.hid ?_
    have HQ := Lib.hid q2
    clear q2
    go_wp2
    go_ret
    exact ⟨by first | (simp; done) | simp [h], HQ.out⟩
  · have hk : ¬ (n : Int) ≤ 64 := by omega
    clear he hn
    go_enter Tryd.func23, Tryd.ntmps23
    go_wp2
    go_ret
    exact ⟨by first | (simp; done) | simp [h], Below.refl _ _⟩
set_option maxRecDepth 100000 in
set_option maxHeartbeats 4000000 in
theorem pEntries_any (ae : Option Addr) (c : Nat) (l : List Ent) (w : World) (he : EntsAt w ae l) (n : Nat) (hn : n = l.length) (hl : n ≤ 1000000) :
    Calls Tryd.prog 24 #[.slice ae n c] w fun e w' => e = .returned (.int .i64 (entsP l)) ∧ Below w.heap.size w w' := by
  have HN := Lib.hid hn
  have HE := Lib.hid he
  clear hn he
  go_enter Tryd.func24, Tryd.ntmps24
  go_wp2
  go_loopw [8] (fun i wr => ∃ k : Nat, k ≤ n ∧ i = .int .i64 k ∧ Hid (∀ j (hj : j < l.length), j < k → checkEn l[j] = 0) ∧ Hid (Below w.heap.size w wr)) (fun i _ => n - (intOf i).toNat)
  case atStart => exact ⟨0, Nat.zero_le _, rfl, Lib.hid (fun j _ h => by omega), Lib.hid (Below.refl _ _)⟩
  case round =>
    obtain ⟨k, hk, rfl, HF, HB⟩ := hrel
    by_cases hlt : k < n
    · have hkl : (k : Int) < (n : Int) := by omega
      have hkx : k < l.length := by have := HN.out; omega
      obtain ⟨b, o, rfl, hb, c0, c1, c2, c3, c4⟩ := (HE.out.onP HB.out).cellsP k hkx
      have HS : Hid (checkEn l[k] = 0 → ∀ j (hj : j < l.length), j < k + 1 → checkEn l[j] = 0) := Lib.hid (fun h j hj hjk => by
        by_cases e : j = k
        · subst e; exact h
        · exact HF.out j hj (by omega))
      have HT : Hid (checkEn l[k] ≠ 0 → entsP l = checkEn l[k]) := Lib.hid (fun h => entsP_first hkx HF.out h)
      have HC := Lib.hid (fun u => eCheck_any l[k] u)
      generalize checkEn l[k] = q at *
      generalize l[k] = x at *
      obtain ⟨kx, tx, ox, vx, ux⟩ := x
      dsimp only at c0 c1 c2 c3 c4 HC
      have qa := (Below.refl wr.heap.size wr).alloc (Nat.le_refl _) (.cells #[.string kx, .int .i64 tx, .int .u16 ox, .string vx, .int .i64 ux] 48)
      have HA := Lib.hid (HB.out.trans (qa.mono HB.out.size))
      clear hb hkx HF qa
      by_cases hq : q = 0
      · subst hq
        go_wp2_with (go_at_call 47; refine (HC.out _).mono ?_; rintro e w2 ⟨rfl, q2⟩; refine Hid.out ?_)
        refine Lib.hid ?_
        have HQ := Lib.hid (HA.out.trans (q2.mono HA.out.size))
        have HS2 := Lib.hid (HS.out (by simp))
        clear q2 c0 c1 c2 c3 c4 HC HS HT HB HA
        go_wp2
        go_roundw
        case rel => exact ⟨k + 1, by omega, by go_num, HS2, HQ⟩
        case measure => simp [intOf]; omega
      · have hqb : ((q : Int) != 0) = true := by simpa using hq
        have HT2 := Lib.hid (HT.out hq)
        clear hq HT HS
        go_wp2_with (go_at_call 47; refine (HC.out _).mono ?_; rintro e w2 ⟨rfl, q2⟩; refine Hid.out ?_)
        refine Lib.hid ?_
        have HQ := Lib.hid (HA.out.trans (q2.mono HA.out.size))
        clear q2 c0 c1 c2 c3 c4 HC HB HA
        go_wp2
        go_ret
        exact ⟨by rw [HT2.out]; rfl, HQ.out⟩
    · have hkl : ¬ (k : Int) < (n : Int) := by omega
      have HQ : Hid (entsP l = 0 ∧ Below w.heap.size w wr) := Lib.hid ⟨entsP_zero (fun x hx => by
        obtain ⟨j, hj, rfl⟩ := List.getElem_of_mem hx
        exact HF.out j hj (by have := HN.out; omega)), HB.out⟩
      clear HF HB
      go_wp2
      go_ret
      exact ⟨by rw [HQ.out.1]; rfl, HQ.out.2⟩

end Go.Proofs.YtchhdffehkcecaaDoor
