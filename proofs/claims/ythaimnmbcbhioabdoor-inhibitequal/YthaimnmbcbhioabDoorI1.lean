/-
  Whether an alert mutes another one by a rule, plainly, and as By of package inhibit tells it. The first place at which a function value tells true.
-/
import Derived.Test.YthaimnmbcbhioabDoorROpen
import Derived.Test.YthaimnmbcbhioabDoorM4
import Derived.Test.YthaimnmbcbhioabDoorLab6
import Derived.Deep.RegionHeld3
namespace Go.Proofs.YthaimnmbcbhioabDoor
open Go.RowKit Go.Shelf

/-- One operation is taken first, its slot said. -/
theorem wpAnyH_take_at {P : Program} {ops : Array Oper} {Q : Exit → Act → World → Prop} {md : Region.Mode} {S : World → Prop} {i : Nat} (dst : Option Nat) {oi : Oper} {v : Value} {fuel : Nat} {listed : Array Bool} {a : Act} {w : World} (hi : ops[i]? = some oi) (hd : oi.dst = dst)
    (hs : Region.noSelect ops = true) (hf : Region.free md ops listed i = true) (hr : (Region.ready md ops listed).contains i = true)
    (hQ : ∀ c a w, Q (.panic c) (a.put dst v) w → Q (.panic c) a w) (hy : YieldsIf P ops S oi v a) (hS : S w)
    (h : wpAnyH P md ops Q S fuel (listed.setIfInBounds i true) (a.put dst v) w) : wpAnyH P md ops Q S (fuel + 1) listed a w := by
  subst hd
  exact wpAnyH_take hi hs hf hr hQ hy hS h

/-- A list's first place at which p holds, or -1. -/
def hitI {α : Type} (p : α → Bool) : List α → Nat → Int
  | [], _ => -1
  | x :: l, n => if p x then (n : Int) else hitI p l (n + 1)
theorem hit_skip {α : Type} (p : α → Bool) : ∀ (l : List α) (n k : Nat), k ≤ l.length → (∀ j (_ : j < k) (hj : j < l.length), p l[j] = false) → hitI p l n = hitI p (l.drop k) (n + k)
  | l, n, 0, _, _ => by simp
  | [], n, k + 1, hk, _ => by simp at hk
  | x :: l, n, k + 1, hk, h => by
    have h0 : p x = false := h 0 (by omega) (by simp)
    have ih := hit_skip p l (n + 1) k (by simpa using hk) fun j hj hl => h (j + 1) (by omega) (by simpa using hl)
    rw [hitI, if_neg (by rw [h0]; decide), ih, List.drop_succ_cons, show n + 1 + k = n + (k + 1) by omega]
theorem hit_at {α : Type} {p : α → Bool} {l : List α} {k : Nat} (hk : k < l.length) (h : ∀ j (_ : j < k) (hj : j < l.length), p l[j] = false) (e : p l[k] = true) : hitI p l 0 = (k : Int) := by
  rw [hit_skip p l 0 k (by omega) h, List.drop_eq_getElem_cons hk, hitI, if_pos e, Nat.zero_add]
theorem hit_no {α : Type} {p : α → Bool} {l : List α} (h : ∀ j (_ : j < l.length) (hj : j < l.length), p l[j] = false) : hitI p l 0 = -1 := by
  rw [hit_skip p l 0 l.length (Nat.le_refl _) h, List.drop_length, hitI]
theorem hit_pos {α : Type} {p : α → Bool} : ∀ {l : List α} {n : Nat}, 0 ≤ hitI p l n ↔ ∃ x ∈ l, p x = true
  | [], n => by simp [hitI]
  | x :: l, n => by
    rw [hitI]
    by_cases h : p x = true
    · rw [if_pos h]
      exact ⟨fun _ => ⟨x, by simp, h⟩, fun _ => by omega⟩
    · rw [if_neg h, hit_pos]
      constructor
      · rintro ⟨y, hy, e⟩; exact ⟨y, List.mem_cons_of_mem _ hy, e⟩
      · rintro ⟨y, hy, e⟩
        rcases List.mem_cons.1 hy with rfl | hy
        · exact absurd e h
        · exact ⟨y, hy, e⟩

/-- Whether one alert mutes another one by a rule. -/
def byP (r : Rl) (ps qs : List Pr) : Prop :=
  (∀ s ∈ r.eqs, getV ps s.toList = getV qs s.toList) ∧ (∀ m ∈ r.src, mAsk ps m) ∧ (∀ m ∈ r.tgt, mAsk qs m) ∧ ¬ ((∀ m ∈ r.tgt, mAsk ps m) ∧ ∀ m ∈ r.src, mAsk qs m)
/-- Where a rule's lists lie. -/
abbrev RlAt (w : World) (r : Rl) : Prop := MtsAt w r.sa r.src ∧ MtsAt w r.ta r.tgt ∧ StrsAt w r.ea r.eqs
theorem RlAt.below {w w' : World} {r : Rl} {B : Nat} (h : RlAt w r) (hb : Below B w w') (hB : w.heap.size ≤ B) : RlAt w' r := ⟨h.1.below hb hB, h.2.1.below hb hB, h.2.2.below hb hB⟩
/-- A rule's block. -/
def RlBlk (w : World) (B : Nat) (r : Rl) : Prop := w.heap[B]? = some (.cells #[.slice r.sa r.src.length r.sc, .slice r.ta r.tgt.length r.tc, .slice r.ea r.eqs.length r.ec] 25 (0, 0))
theorem RlBlk.below {w w' : World} {B : Nat} {r : Rl} (h : RlBlk w B r) (hb : Below w.heap.size w w') : RlBlk w' B r := (hb.block B (lt_of_block h)).trans h
theorem RlBlk.c0 {w : World} {B : Nat} {r : Rl} (h : RlBlk w B r) : w.cell? ⟨B, 0, none⟩ = some (.slice r.sa r.src.length r.sc) := cell_heap h
theorem RlBlk.c1 {w : World} {B : Nat} {r : Rl} (h : RlBlk w B r) : w.cell? ⟨B, 1, none⟩ = some (.slice r.ta r.tgt.length r.tc) := cell_heap h
theorem RlBlk.c2 {w : World} {B : Nat} {r : Rl} (h : RlBlk w B r) : w.cell? ⟨B, 2, none⟩ = some (.slice r.ea r.eqs.length r.ec) := cell_heap h
/-- A block of one cell. -/
def OneBlk (w : World) (B : Nat) (v : Value) : Prop := w.heap[B]? = some (.cells #[v] 26 (0, 0))
theorem OneBlk.below {w w' : World} {B : Nat} {v : Value} (h : OneBlk w B v) (hb : Below w.heap.size w w') : OneBlk w' B v := (hb.block B (lt_of_block h)).trans h
theorem OneBlk.c0 {w : World} {B : Nat} {v : Value} (h : OneBlk w B v) : w.cell? ⟨B, 0, none⟩ = some v := cell_heap h

set_option maxHeartbeats 2000000 in
theorem idxS_any (a : Option Addr) (c : Nat) (l : List ByteArray) (p : ByteArray → Bool) (g : Nat) (lb : Array Value) (eg : ∀ args w, (callFunc g args).run Tryd.prog w = .ok (.enter g args) w) (w : World) (h : StrsAt w a l) (hn : l.length ≤ 9223372036854775807)
    (hp : ∀ W, Below w.heap.size w W → ∀ x ∈ l, Calls Tryd.prog g (#[.string x] ++ lb) W fun e w' => e = .returned (.bool (p x)) ∧ Below W.heap.size W w') (n : Nat) (hnl : n = l.length) :
    Calls Tryd.prog 12 #[.slice a n c, .func (.func g) #[] lb] w fun e w' => e = .returned (.int .i64 (hitI p l 0)) ∧ Below w.heap.size w w' := by
  subst hnl
  have HP := Lib.hid hp
  have HH := Lib.hid h
  obtain ⟨R, HR⟩ : ∃ R, Hid (hitI p l 0 = R) := ⟨_, Lib.hid rfl⟩
  rw [HR.out]
  clear hp h
  go_enter Tryd.func12, Tryd.ntmps12
  go_wp2
  go_loopg [5, 8] l.length (fun gg _ s8 wr => ∃ k : Nat, k ≤ l.length ∧ l.length - k ≤ gg ∧ s8 = .int .i64 k ∧ Hid (Below w.heap.size w wr) ∧ Hid (∀ j (_ : j < k) (hj : j < l.length), p l[j] = false))
  case atStart => exact ⟨0, Nat.zero_le _, by omega, rfl, Lib.hid (Below.refl _ w), Lib.hid fun j hj => absurd hj (Nat.not_lt_zero _)⟩
  case round =>
    obtain ⟨k, hk, hg, rfl, HB, HA⟩ := hrel
    by_cases hlt : k < l.length
    · have hkl : (k : Int) < (l.length : Int) := by omega
      obtain ⟨b, o, rfl, hbl, hc⟩ := HH.out (by omega)
      have hcell : wr.cell? ⟨b, o + k, none⟩ = some (.string l[k]) := (HB.out.cell (p := ⟨b, o + k, none⟩) hbl).trans (hc k hlt)
      have HC := Lib.hid (HP.out wr HB.out l[k] (List.getElem_mem hlt))
      have HY : Hid (p l[k] = true → R = (k : Int)) := Lib.hid fun e => HR.out.symm.trans (hit_at hlt HA.out e)
      have HN : Hid (p l[k] = false → ∀ j (_ : j < k + 1) (hj : j < l.length), p l[j] = false) := Lib.hid fun e j hj hl => by
        by_cases e2 : j = k
        · subst e2; exact e
        · exact HA.out j (by omega) hl
      clear hc HA
      cases hq : p l[k] with
      | true =>
        rw [hq] at HC
        obtain rfl := HY.out hq
        generalize l[k] = x at *
        clear hq HY HN
        go_wp2_with (go_at_fn g; refine HC.out.mono ?_; rintro e w' ⟨rfl, hb'⟩)
        go_ret
        exact ⟨rfl, HB.out.trans (hb'.mono HB.out.size)⟩
      | false =>
        rw [hq] at HC
        have HA := Lib.hid (HN.out hq)
        generalize l[k] = x at *
        clear hq HY HN
        go_wp2_with (go_at_fn g; refine HC.out.mono ?_; rintro e w' ⟨rfl, hb'⟩)
        go_roundg (l.length - (k + 1))
        case measure => omega
        case rel => exact ⟨k + 1, by omega, by omega, by go_num, Lib.hid (HB.out.trans (hb'.mono HB.out.size)), HA⟩
    · have hltz : ¬ (k : Int) < (l.length : Int) := by omega
      obtain rfl : k = l.length := by omega
      obtain rfl : R = -1 := HR.out.symm.trans (hit_no HA.out)
      clear HA
      go_wp2
      go_ret
      exact ⟨rfl, HB.out⟩
set_option maxRecDepth 20000 in
set_option maxHeartbeats 1000000 in
theorem hasS2_any (a : Option Addr) (c : Nat) (l : List ByteArray) (p : ByteArray → Bool) (g : Nat) (lb : Array Value) (eg : ∀ args w, (callFunc g args).run Tryd.prog w = .ok (.enter g args) w) (w : World) (h : StrsAt w a l) (hn : l.length ≤ 9223372036854775807)
    (hp : ∀ W, Below w.heap.size w W → ∀ x ∈ l, Calls Tryd.prog g (#[.string x] ++ lb) W fun e w' => e = .returned (.bool (p x)) ∧ Below W.heap.size W w') (n : Nat) (hnl : n = l.length) :
    Calls Tryd.prog 10 #[.slice a n c, .func (.func g) #[] lb] w fun e w' => Tells (∃ x ∈ l, p x = true) e ∧ Below w.heap.size w w' := by
  subst hnl
  have HI := Lib.hid (idxS_any a c l p g lb eg w h hn hp _ rfl)
  have HT : Hid (decide (0 ≤ hitI p l 0) = true ↔ ∃ x ∈ l, p x = true) := Lib.hid (by rw [decide_eq_true_iff]; exact hit_pos)
  generalize (∃ x ∈ l, p x = true) = P at *
  generalize hitI p l 0 = R at *
  clear hp h
  go_enter Tryd.func10, Tryd.ntmps10
  go_wp2_with (go_at_call 12; refine HI.out.mono ?_; rintro e w' ⟨rfl, hb⟩)
  go_ret
  exact ⟨⟨_, rfl, HT.out⟩, hb⟩

set_option maxRecDepth 20000 in
set_option maxHeartbeats 2000000 in
theorem iDiffers_any (B1 B2 : Nat) (sa : Option Addr) (sc : Nat) (ps : List Pr) (ta : Option Addr) (tc : Nat) (qs : List Pr) (s : ByteArray) (w : World) (h1 : OneBlk w B1 (.slice sa ps.length sc)) (h2 : OneBlk w B2 (.slice ta qs.length tc)) (hp : PairsAt w sa ps) (hq : PairsAt w ta qs) (hpn : ps.length ≤ 9223372036854775807) (hqn : qs.length ≤ 9223372036854775807) :
    Calls Tryd.prog 9 #[.string s, .pointer (some ⟨B1, 0, none⟩), .pointer (some ⟨B2, 0, none⟩)] w fun e w' => e = .returned (.bool (!((getV ps s.toList).toList == (getV qs s.toList).toList))) ∧ Below w.heap.size w w' := by
  have H1 := Lib.hid (Get_any sa sc ps s w.drew hp hpn _ rfl)
  have H2 := Lib.hid (fun u (hb : Below w.heap.size w u) => Get_any ta tc qs s u (hq.below hb (Nat.le_refl _)) hqn _ rfl)
  generalize (getV ps s.toList) = V1 at *
  generalize (getV qs s.toList) = V2 at *
  generalize ps.length = n1 at *
  generalize qs.length = n2 at *
  clear hp hq
  go_enter Tryd.func9, Tryd.ntmps9
  go_wp2_with fail
  refine wp_region_any (by kernel_rfl) ?_
  change wpAny _ _ _ _ _ _ _ (World.drew _)
  have hS : (fun w' : World => OneBlk w' B1 (.slice sa n1 sc) ∧ OneBlk w' B2 (.slice ta n2 tc)) w.drew := ⟨h1, h2⟩
  refine wpAny_of_held (S := fun w' => OneBlk w' B1 (.slice sa n1 sc) ∧ OneBlk w' B2 (.slice ta n2 tc)) _ _ _ _ ?_
  refine wpAnyH_take_at (i := 0) (some 5) (v := ?_) rfl rfl (by as_aux_lemma => kernel_rfl) (by as_aux_lemma => kernel_rfl) (by as_aux_lemma => kernel_rfl) (fun _ _ _ h => h) (Or.inl ⟨by kernel_rfl, ?_⟩) hS ?_
  rotate_left
  · intro w hSw; have c0 := hSw.1.c0; have c1 := hSw.2.c0; go_simp
    first | done | with_reducible rfl
  skip
  refine wpAnyH_take_at (i := 1) (some 6) (v := ?_) rfl rfl (by as_aux_lemma => kernel_rfl) (by as_aux_lemma => kernel_rfl) (by as_aux_lemma => kernel_rfl) (fun _ _ _ h => h) (Or.inl ⟨by kernel_rfl, ?_⟩) hS ?_
  rotate_left
  · intro w hSw; have c0 := hSw.1.c0; have c1 := hSw.2.c0; go_simp
    first | done | with_reducible rfl
  skip
  refine wpAnyH_take_at (i := 3) (some 8) (v := ?_) rfl rfl (by as_aux_lemma => kernel_rfl) (by as_aux_lemma => kernel_rfl) (by as_aux_lemma => kernel_rfl) (fun _ _ _ h => h) (Or.inl ⟨by kernel_rfl, ?_⟩) hS ?_
  rotate_left
  · intro w hSw; have c0 := hSw.1.c0; have c1 := hSw.2.c0; go_simp
    first | done | with_reducible rfl
  skip
  refine wpAnyH_take_at (i := 4) (some 9) (v := ?_) rfl rfl (by as_aux_lemma => kernel_rfl) (by as_aux_lemma => kernel_rfl) (by as_aux_lemma => kernel_rfl) (fun _ _ _ h => h) (Or.inl ⟨by kernel_rfl, ?_⟩) hS ?_
  rotate_left
  · intro w hSw; have c0 := hSw.1.c0; have c1 := hSw.2.c0; go_simp
    first | done | with_reducible rfl
  skip
  refine wpAnyH_ready (rs := [2]) (by as_aux_lemma => kernel_rfl) (by simp) ?_
  refine AllReadyH.cons rfl (fun K hK => ?_) AllReadyH.nil
  go_simp
  go_wp2_with (go_at_call 7; refine H1.out.mono ?_; rintro e w1 ⟨rfl, q1⟩)
  refine hK.out _ _ ?_ (fun hS => ?_)
  · exact ⟨hS.1.below q1, hS.2.below q1⟩
  clear hK K
  refine wpAnyH_ready (rs := [5]) (by as_aux_lemma => kernel_rfl) (by simp) ?_
  refine AllReadyH.cons rfl (fun K hK => ?_) AllReadyH.nil
  go_simp
  go_wp2_with (go_at_call 7; refine (H2.out _ ((Below.refl w.heap.size w).drew.trans (q1.mono (Nat.le_refl _)))).mono ?_; rintro e w2 ⟨rfl, q2⟩)
  refine hK.out _ _ ?_ (fun hS => ?_)
  · exact ⟨hS.1.below q2, hS.2.below q2⟩
  clear hK K
  refine wpAnyH_take_at (i := 6) (some 11) (v := ?_) rfl rfl (by as_aux_lemma => kernel_rfl) (by as_aux_lemma => kernel_rfl) (by as_aux_lemma => kernel_rfl) (fun _ _ _ h => h) (Or.inl ⟨by kernel_rfl, ?_⟩) hS ?_
  rotate_left
  · intro w hSw; have c0 := hSw.1.c0; have c1 := hSw.2.c0; go_simp
    first | done | with_reducible rfl
  skip
  refine wpAnyH_take_at (i := 7) (some 4) (v := ?_) rfl rfl (by as_aux_lemma => kernel_rfl) (by as_aux_lemma => kernel_rfl) (by as_aux_lemma => kernel_rfl) (fun _ _ _ h => h) (Or.inl ⟨by kernel_rfl, ?_⟩) hS ?_
  rotate_left
  · intro w hSw; have c0 := hSw.1.c0; have c1 := hSw.2.c0; go_simp
    first | done | with_reducible rfl
  skip
  refine wpAnyH_done (by kernel_rfl) ?_ _
  have b2 := (Below.refl w.heap.size w).drew.trans (q1.mono (Nat.le_refl _)) |>.trans (q2.mono q1.size)
  clear hS
  go_simp
  go_wp2
  go_ret
  exact ⟨rfl, b2⟩

theorem not_beq_iff {a b : ByteArray} : (!(a.toList == b.toList)) = true ↔ a ≠ b := by
  rw [Bool.not_eq_true', beq_eq_false_iff_ne]
  constructor
  · rintro h rfl; exact h rfl
  · intro h e
    rw [ByteArray.toList_eq, ByteArray.toList_eq] at e
    exact h (ByteArray.ext (Array.toList_inj.1 e))

set_option maxRecDepth 20000 in
set_option maxHeartbeats 4000000 in
theorem iBy_any (r : Rl) (sa : Option Addr) (sc : Nat) (ps : List Pr) (ta : Option Addr) (tc : Nat) (qs : List Pr) (w : World) (htab : TabW w) (hr : RlAt w r) (okr : RlOk r) (hp : PairsAt w sa ps) (hq : PairsAt w ta qs) (hpn : ps.length ≤ 9223372036854775807) (hqn : qs.length ≤ 9223372036854775807)
    (hpv : ∀ x ∈ ps, x.2.size ≤ 9223372036854775807) (hqv : ∀ x ∈ qs, x.2.size ≤ 9223372036854775807) :
    Calls Tryd.prog 6 #[.agg #[.slice r.sa r.src.length r.sc, .slice r.ta r.tgt.length r.tc, .slice r.ea r.eqs.length r.ec], .slice sa ps.length sc, .slice ta qs.length tc] w fun e w' => Tells (byP r ps qs) e ∧ Below w.heap.size w w' := by
  have htl := htab.lt
  have kM : maxLen = 9223372036854775807 := rfl
  have d1 := (Below.refl w.heap.size w).alloc (Nat.le_refl _) (.cells #[.slice r.sa r.src.length r.sc, .slice r.ta r.tgt.length r.tc, .slice r.ea r.eqs.length r.ec] 25)
  have k1 : RlBlk (w.alloc (.cells #[.slice r.sa r.src.length r.sc, .slice r.ta r.tgt.length r.tc, .slice r.ea r.eqs.length r.ec] 25)) w.heap.size r := heap_new w _
  have s1 : (w.alloc (.cells #[.slice r.sa r.src.length r.sc, .slice r.ta r.tgt.length r.tc, .slice r.ea r.eqs.length r.ec] 25)).heap.size = w.heap.size + 1 := by simp
  obtain ⟨w1, hw1⟩ : ∃ x, x = w.alloc (.cells #[.slice r.sa r.src.length r.sc, .slice r.ta r.tgt.length r.tc, .slice r.ea r.eqs.length r.ec] 25) := ⟨_, rfl⟩
  rw [← hw1] at d1 k1 s1
  have e2 := (Below.refl w1.heap.size w1).alloc (Nat.le_refl _) (.cells #[.slice sa ps.length sc] 26)
  have d2 := d1.trans (e2.mono d1.size)
  have k2 := k1.below e2
  have j2 : OneBlk (w1.alloc (.cells #[.slice sa ps.length sc] 26)) w1.heap.size (.slice sa ps.length sc) := heap_new w1 _
  have s2 : (w1.alloc (.cells #[.slice sa ps.length sc] 26)).heap.size = w1.heap.size + 1 := by simp
  obtain ⟨w2, hw2⟩ : ∃ x, x = w1.alloc (.cells #[.slice sa ps.length sc] 26) := ⟨_, rfl⟩
  rw [← hw2] at e2 d2 k2 j2 s2
  have e3 := (Below.refl w2.heap.size w2).alloc (Nat.le_refl _) (.cells #[.slice ta qs.length tc] 26)
  have d3 := d2.trans (e3.mono d2.size)
  have k3 := k2.below e3
  have j3 := j2.below e3
  have i3 : OneBlk (w2.alloc (.cells #[.slice ta qs.length tc] 26)) w2.heap.size (.slice ta qs.length tc) := heap_new w2 _
  rw [s2, s1] at i3
  rw [s1] at j3
  obtain ⟨w3, hw3⟩ : ∃ x, x = w2.alloc (.cells #[.slice ta qs.length tc] 26) := ⟨_, rfl⟩
  rw [← hw3] at d3 k3 j3 i3
  have HHas := Lib.hid (hasS2_any r.ea r.ec r.eqs (fun s => !((getV ps s.toList).toList == (getV qs s.toList).toList)) 9 #[.pointer (some ⟨w.heap.size + 1, 0, none⟩), .pointer (some ⟨w.heap.size + 1 + 1, 0, none⟩)] (enters_of Tryd.func9 (by kernel_rfl) rfl) w3 (hr.2.2.below d3 (Nat.le_refl _)) (by have := okr.2.2.1.1; omega)
    (fun W hb x _ => iDiffers_any (w.heap.size + 1) (w.heap.size + 1 + 1) sa sc ps ta tc qs x W (j3.below hb) (i3.below hb) ((hp.below d3 (Nat.le_refl _)).below hb (Nat.le_refl _)) ((hq.below d3 (Nat.le_refl _)).below hb (Nat.le_refl _)) hpn hqn) _ rfl)
  have HM1 := Lib.hid (fun u (hb : Below w.heap.size w u) => mAll_any r.sa r.sc r.src sa sc ps u (htab.on hb htl) (hr.1.below hb (Nat.le_refl _)) (by have := okr.1.1; omega) (hp.below hb (Nat.le_refl _)) hpn hpv _ rfl)
  have HM2 := Lib.hid (fun u (hb : Below w.heap.size w u) => mAll_any r.ta r.tc r.tgt ta tc qs u (htab.on hb htl) (hr.2.1.below hb (Nat.le_refl _)) (by have := okr.2.1.1; omega) (hq.below hb (Nat.le_refl _)) hqn hqv _ rfl)
  have HM3 := Lib.hid (fun u (hb : Below w.heap.size w u) => mAll_any r.ta r.tc r.tgt sa sc ps u (htab.on hb htl) (hr.2.1.below hb (Nat.le_refl _)) (by have := okr.2.1.1; omega) (hp.below hb (Nat.le_refl _)) hpn hpv _ rfl)
  have HM4 := Lib.hid (fun u (hb : Below w.heap.size w u) => mAll_any r.sa r.sc r.src ta tc qs u (htab.on hb htl) (hr.1.below hb (Nat.le_refl _)) (by have := okr.1.1; omega) (hq.below hb (Nat.le_refl _)) hqn hqv _ rfl)
  have HF : Hid (byP r ps qs ↔ (¬ ∃ x ∈ r.eqs, (!((getV ps x.toList).toList == (getV qs x.toList).toList)) = true) ∧ (∀ m ∈ r.src, mAsk ps m) ∧ (∀ m ∈ r.tgt, mAsk qs m) ∧ ¬ ((∀ m ∈ r.tgt, mAsk ps m) ∧ ∀ m ∈ r.src, mAsk qs m)) := Lib.hid (by
    unfold byP
    simp only [not_beq_iff]
    constructor
    · rintro ⟨h1, h2⟩; exact ⟨fun ⟨x, hx, hn⟩ => hn (h1 x hx), h2⟩
    · rintro ⟨h1, h2⟩; exact ⟨fun x hx => Classical.not_not.1 fun hn => h1 ⟨x, hx, hn⟩, h2⟩)
  have K3 := Lib.hid k3
  have J3 := Lib.hid j3
  have I3 := Lib.hid i3
  have D3 := Lib.hid d3
  generalize (∃ x ∈ r.eqs, (!((getV ps x.toList).toList == (getV qs x.toList).toList)) = true) = P0 at *
  generalize byP r ps qs = P at *
  clear d1 k1 e2 d2 k2 j2 e3 d3 k3 j3 i3 hr okr hp hq hpv hqv htab htl
  generalize (∀ m ∈ r.src, mAsk ps m) = P1 at *
  generalize (∀ m ∈ r.tgt, mAsk qs m) = P2 at *
  generalize (∀ m ∈ r.tgt, mAsk ps m) = P3 at *
  generalize (∀ m ∈ r.src, mAsk qs m) = P4 at *
  subst hw3 hw2 hw1
  go_enter Tryd.func6, Tryd.ntmps6
  go_wp2_with (go_at_call 10; refine HHas.out.mono ?_; rintro e w4 ⟨⟨b0, rfl, hb0⟩, q4⟩; have HB0 := Lib.hid hb0; clear hb0; refine Hid.out ?_)
  refine Lib.hid ?_
  have D4 := Lib.hid (D3.out.trans (q4.mono D3.out.size))
  have K4 := Lib.hid (K3.out.below q4)
  have J4 := Lib.hid (J3.out.below q4)
  have I4 := Lib.hid (I3.out.below q4)
  clear q4 D3 K3 J3 I3 HHas s1 s2
  cases b0 with
  | true =>
    have HT : Hid (Tells P (.returned (.bool false))) := Lib.hid ⟨false, rfl, ⟨fun h => (by cases h), fun h => absurd (HB0.out.1 rfl) (HF.out.1 h).1⟩⟩
    clear HF HB0
    go_wp2
    go_ret
    exact ⟨HT.out, D4.out⟩
  | false =>
  have HP0 : Hid (¬ P0) := Lib.hid fun h => by have := HB0.out.2 h; cases this
  have c0 := K4.out.c0
  have c1 := J4.out.c0
  have H1 := Lib.hid (HM1.out _ D4.out)
  clear HB0
  go_wp2_with (go_at_call 11; refine H1.out.mono ?_; rintro e w5 ⟨⟨b1, rfl, hb1⟩, q5⟩; have HB1 := Lib.hid hb1; clear hb1; refine Hid.out ?_)
  refine Lib.hid ?_
  have D5 := Lib.hid (D4.out.trans (q5.mono D4.out.size))
  have K5 := Lib.hid (K4.out.below q5)
  have J5 := Lib.hid (J4.out.below q5)
  have I5 := Lib.hid (I4.out.below q5)
  clear q5 D4 K4 J4 I4 H1 c0 c1
  cases b1 with
  | false =>
    have HT : Hid (Tells P (.returned (.bool false))) := Lib.hid ⟨false, rfl, ⟨fun h => (by cases h), fun h => by have := HB1.out.2 (HF.out.1 h).2.1; cases this⟩⟩
    clear HF HB1
    go_wp2
    go_ret
    exact ⟨HT.out, D5.out⟩
  | true =>
  have HP1 : Hid P1 := Lib.hid (HB1.out.1 rfl)
  have c0 := K5.out.c1
  have c1 := I5.out.c0
  have H2 := Lib.hid (HM2.out _ D5.out)
  clear HB1
  go_wp2_with (go_at_call 11; refine H2.out.mono ?_; rintro e w6 ⟨⟨b2, rfl, hb2⟩, q6⟩; have HB2 := Lib.hid hb2; clear hb2; refine Hid.out ?_)
  refine Lib.hid ?_
  have D6 := Lib.hid (D5.out.trans (q6.mono D5.out.size))
  have K6 := Lib.hid (K5.out.below q6)
  have J6 := Lib.hid (J5.out.below q6)
  have I6 := Lib.hid (I5.out.below q6)
  clear q6 D5 K5 J5 I5 H2 c0 c1
  cases b2 with
  | false =>
    have HT : Hid (Tells P (.returned (.bool false))) := Lib.hid ⟨false, rfl, ⟨fun h => (by cases h), fun h => by have := HB2.out.2 (HF.out.1 h).2.2.1; cases this⟩⟩
    clear HF HB2
    go_wp2
    go_ret
    exact ⟨HT.out, D6.out⟩
  | true =>
  have HP2 : Hid P2 := Lib.hid (HB2.out.1 rfl)
  have c0 := K6.out.c1
  have c1 := J6.out.c0
  have H3 := Lib.hid (HM3.out _ D6.out)
  clear HB2
  go_wp2_with (go_at_call 11; refine H3.out.mono ?_; rintro e w7 ⟨⟨b3, rfl, hb3⟩, q7⟩; have HB3 := Lib.hid hb3; clear hb3; refine Hid.out ?_)
  refine Lib.hid ?_
  have D7 := Lib.hid (D6.out.trans (q7.mono D6.out.size))
  have K7 := Lib.hid (K6.out.below q7)
  have I7 := Lib.hid (I6.out.below q7)
  clear q7 D6 K6 J6 I6 H3 c0 c1
  cases b3 with
  | false =>
    have HT : Hid (Tells P (.returned (.bool true))) := Lib.hid ⟨true, rfl, ⟨fun _ => HF.out.2 ⟨HP0.out, HP1.out, HP2.out, fun h => by have := HB3.out.2 h.1; cases this⟩, fun _ => rfl⟩⟩
    clear HF HB3
    go_wp2
    go_ret
    exact ⟨HT.out, D7.out⟩
  | true =>
  have HP3 : Hid P3 := Lib.hid (HB3.out.1 rfl)
  have c0 := K7.out.c0
  have c1 := I7.out.c0
  have H4 := Lib.hid (HM4.out _ D7.out)
  clear HB3
  go_wp2_with (go_at_call 11; refine H4.out.mono ?_; rintro e w8 ⟨⟨b4, rfl, hb4⟩, q8⟩; have HB4 := Lib.hid hb4; clear hb4; refine Hid.out ?_)
  refine Lib.hid ?_
  have D8 := Lib.hid (D7.out.trans (q8.mono D7.out.size))
  have HT : Hid (Tells P (.returned (.bool (!b4)))) := Lib.hid ⟨!b4, rfl, by
    rw [HF.out]
    constructor
    · intro h; exact ⟨HP0.out, HP1.out, HP2.out, fun k => by rw [HB4.out.2 k.2] at h; cases h⟩
    · intro h
      cases b4 with
      | false => rfl
      | true => exact absurd ⟨HP3.out, HB4.out.1 rfl⟩ h.2.2.2⟩
  clear HB4 q8 D7 K7 I7 H4 c0 c1 HF
  go_wp2
  go_ret
  exact ⟨HT.out, D8.out⟩

end Go.Proofs.YthaimnmbcbhioabDoor
