/-
  How many places are told at most; what the children of a route are told by. Where labels go: the walk of package route, a closure that calls itself. The children of each route: what allChildren of package route makes. Where labels go: Walk of package route; Children.
-/
import Derived.Test.YtmanjegdgjeeiaaGreatDoorKW16
import Derived.WalkMore
import Derived.Deep.LoopGhost
import Derived.Laws.OwnMore
import Derived.Deep.AppendLies
import Derived.Laws.EntriesVeiled
import Derived.Deep.RegionHeld3
import Derived.Laws.MakeOwn
import Derived.Laws.Tables
namespace Go.Proofs.YtmanjegdgjeeiaaGreatDoor
open Go.RowKit

/-- A sum over the first n. -/
def sumTo (g : Nat → Nat) : Nat → Nat
  | 0 => 0
  | n + 1 => sumTo g n + g n
theorem sumTo_le {g h : Nat → Nat} : ∀ n, (∀ i, i < n → g i ≤ h i) → sumTo g n ≤ sumTo h n
  | 0, _ => Nat.le_refl _
  | n + 1, k => Nat.add_le_add (sumTo_le n fun i hi => k i (by omega)) (k n (by omega))
theorem sumTo_add (g h : Nat → Nat) : ∀ n, sumTo (fun i => g i + h i) n = sumTo g n + sumTo h n
  | 0 => rfl
  | n + 1 => by show sumTo (fun i => g i + h i) n + (g n + h n) = sumTo g n + g n + (sumTo h n + h n); rw [sumTo_add g h n]; omega
theorem sumTo_one (c : Nat) : ∀ n, sumTo (fun _ => c) n = n * c
  | 0 => by simp [sumTo]
  | n + 1 => by show sumTo _ n + c = (n + 1) * c; rw [sumTo_one c n, Nat.succ_mul]
theorem sumTo_at (p : Int) (c : Nat) : ∀ n, sumTo (fun i => if p = (i : Int) then c else 0) n ≤ c ∧ ((∀ i : Nat, i < n → p ≠ (i : Int)) → sumTo (fun i => if p = (i : Int) then c else 0) n = 0)
  | 0 => ⟨Nat.zero_le _, fun _ => rfl⟩
  | n + 1 => by
    obtain ⟨h1, h2⟩ := sumTo_at p c n
    constructor
    · show sumTo _ n + (if p = (n : Int) then c else 0) ≤ c
      by_cases h : p = (n : Int)
      · rw [h2 fun i hi e => by omega, if_pos h]; omega
      · rw [if_neg h]; omega
    · intro h
      show sumTo _ n + (if p = (n : Int) then c else 0) = 0
      rw [h2 fun i hi => h i (by omega), if_neg (h n (by omega))]
theorem sumTo_mem (g : Nat → Nat) {i : Nat} : ∀ {n}, i < n → g i ≤ sumTo g n
  | n + 1, h => by
    show g i ≤ sumTo g n + g n
    by_cases e : i = n
    · subst e; omega
    · have := sumTo_mem g (n := n) (i := i) (by omega); omega

/-- What children tell together. -/
def tellN (g : Nat → List Nat) (ks : List Nat) : Nat := (ks.map fun k => (g k).length).sum
theorem tellN_append (g : Nat → List Nat) (a b : List Nat) : tellN g (a ++ b) = tellN g a + tellN g b := by
  unfold tellN
  rw [List.map_append, List.sum_append]
theorem runKids_len (g : Nat → List Nat) (co : Nat → Bool) : ∀ ks, (runKids g co ks).length ≤ tellN g ks
  | [] => Nat.le_refl _
  | k :: r => by
    have ih := runKids_len g co r
    have e : tellN g (k :: r) = (g k).length + tellN g r := by unfold tellN; simp
    rw [e]
    unfold runKids
    split
    · omega
    · split
      · rw [List.length_append]; omega
      · omega
theorem runKids_head (g : Nat → List Nat) (co : Nat → Bool) (k : Nat) (r : List Nat) : (g k).length ≤ (runKids g co (k :: r)).length := by
  unfold runKids
  split
  · rename_i h
    rw [h]
    exact Nat.zero_le _
  · split
    · rw [List.length_append]; omega
    · exact Nat.le_refl _
theorem kids_sum (l : List Rt) (g : Nat → List Nat) (n : Nat) : ∀ m, m ≤ l.length → sumTo (fun a => tellN g (kidsTo l a m)) n ≤ sumTo (fun k => (g k).length) m
  | 0, _ => by
    have : sumTo (fun a => tellN g (kidsTo l a 0)) n = sumTo (fun _ => 0) n := rfl
    rw [this, sumTo_one]
    omega
  | m + 1, h => by
    have ih := kids_sum l g n m (by omega)
    have h1 : sumTo (fun a => tellN g (kidsTo l a (m + 1))) n ≤ sumTo (fun a => tellN g (kidsTo l a m) + (if (l[m]'(by omega)).par = (a : Int) then (g m).length else 0)) n := by
      refine sumTo_le n fun a _ => ?_
      by_cases e : (l[m]'(by omega)).par = (a : Int)
      · rw [kidsTo_succ_yes (by omega) e, tellN_append, if_pos e]
        simp [tellN]
      · rw [kidsTo_succ_no (by omega) e, if_neg e]
        omega
    rw [sumTo_add] at h1
    have h2 := (sumTo_at (l[m]'(by omega)).par (g m).length n).1
    show _ ≤ sumTo _ m + (g m).length
    omega
theorem walk_sum (l : List Rt) (tk co : Nat → Bool) : ∀ f, sumTo (fun a => (walkP tk co (kidsP l) f a).length) l.length ≤ f * l.length
  | 0 => by
    have : sumTo (fun a => (walkP tk co (kidsP l) 0 a).length) l.length = sumTo (fun _ => 0) l.length := rfl
    rw [this, sumTo_one]
    omega
  | f + 1 => by
    have ih := walk_sum l tk co f
    have h1 : sumTo (fun a => (walkP tk co (kidsP l) (f + 1) a).length) l.length ≤ sumTo (fun a => 1 + tellN (walkP tk co (kidsP l) f) (kidsTo l a l.length)) l.length := by
      refine sumTo_le _ fun a _ => ?_
      have hr := runKids_len (walkP tk co (kidsP l) f) co (kidsTo l a l.length)
      unfold walkP
      split
      · split
        · simp
        · show (runKids _ _ (kidsTo l a l.length)).length ≤ _
          omega
      · simp
    rw [sumTo_add, sumTo_one] at h1
    have h2 := kids_sum l (walkP tk co (kidsP l) f) l.length l.length (Nat.le_refl _)
    rw [Nat.succ_mul]
    omega
/-- A walk tells few. -/
theorem walk_few (l : List Rt) (tk co : Nat → Bool) (f a : Nat) (ha : a < l.length) : (walkP tk co (kidsP l) f a).length ≤ f * l.length :=
  Nat.le_trans (sumTo_mem (fun a => (walkP tk co (kidsP l) f a).length) ha) (walk_sum l tk co f)


/-- One operation is taken first, its slot said. -/
theorem wpAnyH_take_at {P : Program} {ops : Array Oper} {Q : Exit → Act → World → Prop} {md : Region.Mode} {S : World → Prop} {i : Nat} (dst : Option Nat) {oi : Oper} {v : Value} {fuel : Nat} {listed : Array Bool} {a : Act} {w : World} (hi : ops[i]? = some oi) (hd : oi.dst = dst)
    (hs : Region.noSelect ops = true) (hf : Region.free md ops listed i = true) (hr : (Region.ready md ops listed).contains i = true)
    (hQ : ∀ c a w, Q (.panic c) (a.put dst v) w → Q (.panic c) a w) (hy : YieldsIf P ops S oi v a) (hS : S w)
    (h : wpAnyH P md ops Q S fuel (listed.setIfInBounds i true) (a.put dst v) w) : wpAnyH P md ops Q S (fuel + 1) listed a w := by
  subst hd
  exact wpAnyH_take hi hs hf hr hQ hy hS h

/-- Numbers lie at an address. -/
def NatsAt (w : World) (a : Option Addr) (l : List Nat) : Prop :=
  0 < l.length → ∃ b o, a = some ⟨b, o, none⟩ ∧ b < w.heap.size ∧ ∀ i (hi : i < l.length), w.cell? ⟨b, o + i, none⟩ = some (.int .i64 ((l[i] : Nat) : Int))
theorem NatsAt.below {w w' : World} {a : Option Addr} {l : List Nat} {B : Nat} (h : NatsAt w a l) (hb : Below B w w') (hB : w.heap.size ≤ B) : NatsAt w' a l := fun hn => by
  obtain ⟨b, o, rfl, hbl, hc⟩ := h hn
  refine ⟨b, o, rfl, Nat.lt_of_lt_of_le hbl hb.size, fun i hi => ?_⟩
  rw [hb.cell (p := ⟨b, o + i, none⟩) (Nat.lt_of_lt_of_le hbl hB)]
  exact hc i hi
/-- The children of each route lie in a row of rows. -/
def FamAt (w : World) (F : Nat) (l : List Rt) : Prop := F < w.heap.size ∧ ∀ i, i < l.length → ∃ a c, w.cell? ⟨F, i, none⟩ = some (.slice a (kidsP l i).length c) ∧ NatsAt w a (kidsP l i)
theorem FamAt.below {w w' : World} {F : Nat} {l : List Rt} {B : Nat} (h : FamAt w F l) (hb : Below B w w') (hB : w.heap.size ≤ B) : FamAt w' F l :=
  ⟨Nat.lt_of_lt_of_le h.1 hb.size, fun i hi => by
    obtain ⟨a, c, h1, h2⟩ := h.2 i hi
    exact ⟨a, c, by rw [hb.cell (p := ⟨F, i, none⟩) (Nat.lt_of_lt_of_le h.1 hB)]; exact h1, h2.below hb hB⟩⟩

/-- The values of numbers. -/
def intsV (L : List Nat) : List Value := L.map fun k : Nat => Value.int .i64 (k : Int)
theorem intsV_len (L : List Nat) : (intsV L).length = L.length := by simp [intsV]
theorem intsV_app (L M : List Nat) : intsV (L ++ M) = intsV L ++ intsV M := by simp [intsV]
/-- What was told so far lies in the call's own memory. -/
def Told (w : World) (T : Nat) (L : List Nat) : Prop := ∃ v, w.heap[T]? = some (.cells #[v] 38 (0, 0)) ∧ w.ownsRow (T + 2) 3 1 v L.length (intsV L)
/-- The closure. -/
def clo (lb pb fb tb : Nat) : Value := .func (.func 40) #[] #[.pointer (some ⟨lb, 0, none⟩), .pointer (some ⟨pb, 0, none⟩), .pointer (some ⟨fb, 0, none⟩), .pointer (some ⟨tb + 1, 0, none⟩), .pointer (some ⟨tb, 0, none⟩)]
/-- How the memory stands while the tree is walked. -/
def WSt (Wt w : World) (cv : Value) (L : List Nat) : Prop := Below Wt.heap.size Wt w ∧ w.heap[Wt.heap.size + 1]? = some (.cells #[cv] 84 (0, 0)) ∧ Told w Wt.heap.size L
theorem WSt.below {Wt w w' : World} {cv : Value} {L : List Nat} (h : WSt Wt w cv L) (hb : Below w.heap.size w w') : WSt Wt w' cv L := by
  obtain ⟨h1, h2, v, h3, h4⟩ := h
  refine ⟨h1.trans (hb.mono h1.size), (hb.block _ (lt_of_block h2)).trans h2, v, (hb.block _ (lt_of_block h3)).trans h3, ?_⟩
  exact h4.kept (row := none) ⟨hb.os, hb.tape, hb.output, hb.size, fun k hk _ => hb.block k hk⟩ (by cases v.ownBlock with | none => exact Or.inl rfl | some k => exact Or.inr (by simp))

theorem WSt.drew {Wt w : World} {cv : Value} {L : List Nat} (h : WSt Wt w cv L) : WSt Wt w.drew cv L := ⟨h.1.drew, h.2.1, h.2.2⟩

/-- A number more is told. -/
theorem wst_push {Wt wr w2 : World} {cv v v2 : Value} {L : List Nat} {k : Nat} {o : Obj} (hb : Below Wt.heap.size Wt wr) (hc : wr.heap[Wt.heap.size + 1]? = some (.cells #[cv] 84 (0, 0))) (hv : wr.heap[Wt.heap.size]? = some (.cells #[v] 38 (0, 0)))
    (ho : wr.ownsRow (Wt.heap.size + 2) 3 1 v L.length (intsV L)) (ho2 : w2.ownsRow (Wt.heap.size + 2) 3 1 v2 (L.length + 1) (intsV L ++ [.int .i64 (k : Int)])) (hg : (wr.alloc o).grownBy w2 v.ownBlock) :
    w2.heap[Wt.heap.size]? = some (.cells #[v] 38 (0, 0)) ∧ WSt Wt (w2.setCell ⟨Wt.heap.size, 0, none⟩ v2) cv (L ++ [k]) := by
  have hl1 := lt_of_block hc
  have hne : ∀ j, j < Wt.heap.size + 2 → some j ≠ v.ownBlock := fun j hj e => by have := (ho.lt j e.symm).1; omega
  have hA : ∀ j, j < wr.heap.size → (wr.alloc o).heap[j]? = wr.heap[j]? := fun j hj => Below.heap_alloc wr o j hj
  have hv2 : w2.heap[Wt.heap.size]? = some (.cells #[v] 38 (0, 0)) := (hg.block _ (by simp; omega) (hne _ (by omega))).trans ((hA _ (by omega)).trans hv)
  have hc2 : w2.heap[Wt.heap.size + 1]? = some (.cells #[cv] 84 (0, 0)) := (hg.block _ (by simp; omega) (hne _ (by omega))).trans ((hA _ (by omega)).trans hc)
  refine ⟨hv2, ?_, (Below.heap_setCell w2 ⟨Wt.heap.size, 0, none⟩ v2 (Wt.heap.size + 1) (by simp)).trans hc2, v2, one_setCell hv2, ?_⟩
  · exact ((hb.alloc hb.size o).grown hg (by have := hb.size; simp; omega) (fun j hj => by have := (ho.lt j hj).1; omega)).setCell (p := ⟨Wt.heap.size, 0, none⟩) (Nat.le_refl _) _
  · have h1 := ownsRow_setCell_other ho2 (a := ⟨Wt.heap.size, 0, none⟩) (fun e => by have := (ho2.lt _ e).1; simp at this; omega) v2
    rw [intsV_app, List.length_append]
    exact h1

/-- Whether each route takes labels; whether it continues. -/
def TkOk (l : List Rt) (ps : List Pr) (tk : Nat → Bool) : Prop := ∀ a (ha : a < l.length), tk a = true ↔ ∀ m ∈ l[a].ms, mAsk ps m
theorem tk_ex (l : List Rt) (ps : List Pr) : ∃ tk : Nat → Bool, TkOk l ps tk :=
  ⟨fun a => @decide (∀ m ∈ (l[a]?.map Rt.ms).getD [], mAsk ps m) (Classical.propDecidable _), fun a ha => by
    rw [@decide_eq_true_iff _ (Classical.propDecidable _)]
    simp [ha]⟩
def coP (l : List Rt) (a : Nat) : Bool := (l[a]?.map Rt.co).getD false
theorem tkP_of {l : List Rt} {ps : List Pr} {tk : Nat → Bool} (htk : TkOk l ps tk) {a : Nat} (ha : a < l.length) {e : Ending} (h : Tells (∀ m ∈ l[a].ms, mAsk ps m) e) : e = .returned (.bool (tk a)) := by
  obtain ⟨b, rfl, hb⟩ := h
  have : tk a = b := by rw [Bool.eq_iff_iff, htk a ha, hb]
  rw [this]
theorem drop_at {l : List Nat} {j : Nat} (h : j < l.length) : l.drop j = l[j] :: l.drop (j + 1) := List.drop_eq_getElem_cons h

theorem infoInt : (Tryz.prog.info? 3).map (fun i => (i.zero, i.size, i.bytes)) = some (some (.int .i64 0), 1, 8) := by kernel_rfl
theorem own_shape {w : World} {base : Nat} {e : TypeId} {size : Nat} {v : Value} {n : Nat} {xs : List Value} (h : w.ownsRow base e size v n xs) : ∃ a c, v = .slice a n c := by
  rcases h.2 with ⟨rfl, rfl⟩ | ⟨g, cap, cur, rfl, -⟩
  · exact ⟨_, _, rfl⟩
  · exact ⟨_, _, rfl⟩

set_option maxRecDepth 20000 in
set_option maxHeartbeats 4000000 in
theorem walk1_any (Wt : World) (a : Option Addr) (c : Nat) (l : List Rt) (d : Option Addr) (pc : Nat) (ps : List Pr) (lb pb fb F fc : Nat) (tk : Nat → Bool) (htk : TkOk l ps tk) (htab : TabW Wt) (hl : RtsAt Wt a l) (hps : PairsAt Wt d ps) (hn : l.length ≤ 1000000) (hml : ∀ r ∈ l, r.ms.length ≤ 9223372036854775807) (hpn : ps.length ≤ 9223372036854775807) (hpv : ∀ q ∈ ps, q.2.size ≤ 9223372036854775807)
    (cl : Wt.cell? ⟨lb, 0, none⟩ = some (.slice a l.length c)) (cp : Wt.cell? ⟨pb, 0, none⟩ = some (.slice d ps.length pc)) (cf : Wt.cell? ⟨fb, 0, none⟩ = some (.slice (some ⟨F, 0, none⟩) l.length fc)) (hF : FamAt Wt F l) :
    ∀ f ab k (L : List Nat) w, ab + f = l.length + 1 → k < l.length → WSt Wt w (clo lb pb fb Wt.heap.size) L → L.length + (walkP tk (coP l) (kidsP l) f k).length ≤ 1000000000 →
    Calls Tryz.prog 40 #[.int .i64 (k : Int), .int .i64 (ab : Int), .pointer (some ⟨lb, 0, none⟩), .pointer (some ⟨pb, 0, none⟩), .pointer (some ⟨fb, 0, none⟩), .pointer (some ⟨Wt.heap.size + 1, 0, none⟩), .pointer (some ⟨Wt.heap.size, 0, none⟩)] w fun e w' =>
      e = .returned (.bool (decide (walkP tk (coP l) (kidsP l) f k ≠ []))) ∧ WSt Wt w' (clo lb pb fb Wt.heap.size) (L ++ walkP tk (coP l) (kidsP l) f k) := by
  have hlt0 := htab.lt
  have hlb := World.block_lt_of_cell? Wt _ cl
  have hpb := World.block_lt_of_cell? Wt _ cp
  have hfb := World.block_lt_of_cell? Wt _ cf
  simp only at hlb hpb hfb
  intro f
  induction f with
  | zero =>
    intro ab k L w hab hk hw hL
    have b0 := hw.1
    have cl1 := (b0.cell (p := ⟨lb, 0, none⟩) hlb).trans cl
    have hgt : (l.length : Int) < (ab : Int) := by omega
    have HW := Lib.hid hw
    clear hw hL hab b0
    go_enter Tryz.func40, Tryz.ntmps40
    go_wp2_with fail
    go_step3
    go_wp2_with fail
    refine wp_region_any (by kernel_rfl) ?_
    change wpAny _ _ _ _ _ _ _ (World.drew _)
    have cl2 : w.drew.cell? ⟨lb, 0, none⟩ = some (.slice a l.length c) := cl1
    have hS : (fun w' : World => w'.cell? ⟨lb, 0, none⟩ = some (.slice a l.length c)) w.drew := cl2
    refine wpAny_of_held (S := fun w' => w'.cell? ⟨lb, 0, none⟩ = some (.slice a l.length c)) _ _ _ _ ?_
    refine wpAnyH_take_at (i := 0) (some 13) (v := ?_) rfl rfl (by as_aux_lemma => kernel_rfl) (by as_aux_lemma => kernel_rfl) (by as_aux_lemma => kernel_rfl) (fun _ _ _ h => h) (Or.inl ⟨by kernel_rfl, ?_⟩) hS ?_
    rotate_left
    · intro w hSw; have e1 := hSw; go_simp
      first | done | with_reducible rfl
    skip
    refine wpAnyH_take_at (i := 1) (some 14) (v := ?_) rfl rfl (by as_aux_lemma => kernel_rfl) (by as_aux_lemma => kernel_rfl) (by as_aux_lemma => kernel_rfl) (fun _ _ _ h => h) (Or.inl ⟨by kernel_rfl, ?_⟩) hS ?_
    rotate_left
    · intro w hSw; have e1 := hSw; go_simp
      first | done | with_reducible rfl
    skip
    refine wpAnyH_take_at (i := 2) (some 15) (v := ?_) rfl rfl (by as_aux_lemma => kernel_rfl) (by as_aux_lemma => kernel_rfl) (by as_aux_lemma => kernel_rfl) (fun _ _ _ h => h) (Or.inl ⟨by kernel_rfl, ?_⟩) hS ?_
    rotate_left
    · intro w hSw; have e1 := hSw; go_simp
      first | done | with_reducible rfl
    skip
    refine wpAnyH_take_at (i := 3) (some 16) (v := ?_) rfl rfl (by as_aux_lemma => kernel_rfl) (by as_aux_lemma => kernel_rfl) (by as_aux_lemma => kernel_rfl) (fun _ _ _ h => h) (Or.inl ⟨by kernel_rfl, ?_⟩) hS ?_
    rotate_left
    · intro w hSw; have e1 := hSw; go_simp
      first | done | with_reducible rfl
    skip
    refine wpAnyH_take_at (i := 4) (some 17) (v := ?_) rfl rfl (by as_aux_lemma => kernel_rfl) (by as_aux_lemma => kernel_rfl) (by as_aux_lemma => kernel_rfl) (fun _ _ _ h => h) (Or.inl ⟨by kernel_rfl, ?_⟩) hS ?_
    rotate_left
    · intro w hSw; have e1 := hSw; go_simp
      first | done | with_reducible rfl
    skip
    refine wpAnyH_take_at (i := 5) (some 18) (v := undef) rfl rfl (by as_aux_lemma => kernel_rfl) (by as_aux_lemma => kernel_rfl) (by as_aux_lemma => kernel_rfl) (fun _ _ _ h => h) (Or.inr ⟨by kernel_rfl, rfl⟩) hS ?_
    skip
    refine wpAnyH_take_at (i := 6) (some 19) (v := undef) rfl rfl (by as_aux_lemma => kernel_rfl) (by as_aux_lemma => kernel_rfl) (by as_aux_lemma => kernel_rfl) (fun _ _ _ h => h) (Or.inr ⟨by kernel_rfl, rfl⟩) hS ?_
    skip
    refine wpAnyH_take_at (i := 7) (some 20) (v := undef) rfl rfl (by as_aux_lemma => kernel_rfl) (by as_aux_lemma => kernel_rfl) (by as_aux_lemma => kernel_rfl) (fun _ _ _ h => h) (Or.inr ⟨by kernel_rfl, rfl⟩) hS ?_
    skip
    refine wpAnyH_take_at (i := 8) (some 21) (v := undef) rfl rfl (by as_aux_lemma => kernel_rfl) (by as_aux_lemma => kernel_rfl) (by as_aux_lemma => kernel_rfl) (fun _ _ _ h => h) (Or.inr ⟨by kernel_rfl, rfl⟩) hS ?_
    skip
    refine wpAnyH_take_at (i := 9) (some 22) (v := undef) rfl rfl (by as_aux_lemma => kernel_rfl) (by as_aux_lemma => kernel_rfl) (by as_aux_lemma => kernel_rfl) (fun _ _ _ h => h) (Or.inr ⟨by kernel_rfl, rfl⟩) hS ?_
    skip
    refine wpAnyH_take_at (i := 10) (some 23) (v := undef) rfl rfl (by as_aux_lemma => kernel_rfl) (by as_aux_lemma => kernel_rfl) (by as_aux_lemma => kernel_rfl) (fun _ _ _ h => h) (Or.inr ⟨by kernel_rfl, rfl⟩) hS ?_
    skip
    refine wpAnyH_take_at (i := 11) (some 24) (v := undef) rfl rfl (by as_aux_lemma => kernel_rfl) (by as_aux_lemma => kernel_rfl) (by as_aux_lemma => kernel_rfl) (fun _ _ _ h => h) (Or.inr ⟨by kernel_rfl, rfl⟩) hS ?_
    skip
    refine wpAnyH_take_at (i := 12) (some 25) (v := undef) rfl rfl (by as_aux_lemma => kernel_rfl) (by as_aux_lemma => kernel_rfl) (by as_aux_lemma => kernel_rfl) (fun _ _ _ h => h) (Or.inr ⟨by kernel_rfl, rfl⟩) hS ?_
    skip
    refine wpAnyH_take_at (i := 13) (some 26) (v := ?_) rfl rfl (by as_aux_lemma => kernel_rfl) (by as_aux_lemma => kernel_rfl) (by as_aux_lemma => kernel_rfl) (fun _ _ _ h => h) (Or.inl ⟨by kernel_rfl, ?_⟩) hS ?_
    rotate_left
    · intro w hSw; have e1 := hSw; go_simp
      first | done | with_reducible rfl
    skip
    refine wpAnyH_done (by kernel_rfl) ?_ _
    clear hS cl2 cl1 hl hps hml hpv cl cp cf hF htab
    go_simp
    go_wp2
    rw [Exit.noGoto_ret]
    go_ret
    refine ⟨rfl, ?_⟩
    rw [show walkP tk (coP l) (kidsP l) 0 k = [] from rfl, List.append_nil]
    exact HW.out.drew
  | succ f ih =>
    intro ab k L w hab hk hw hL
    have b0 := hw.1
    obtain ⟨rb, ro, rfl, hrb, hr⟩ := hl (by omega)
    obtain ⟨hr1, hr2, -⟩ := hr k hk
    have cl1 := (b0.cell (p := ⟨lb, 0, none⟩) hlb).trans cl
    have cp1 := (b0.cell (p := ⟨pb, 0, none⟩) hpb).trans cp
    have cr1 : w.cell? ⟨rb, ro + k * 8 + 1, none⟩ = some (.slice l[k].ma l[k].ms.length l[k].mc) := (b0.cell (p := ⟨rb, ro + k * 8 + 1, none⟩) hrb).trans (hr1 1 _ rfl)
    have hgt : ¬ (l.length : Int) < (ab : Int) := by omega
    have hgt2 : ¬ l.length < ab := by omega
    have hkl : (k : Int) < (l.length : Int) := by omega
    have HA := Lib.hid (mAll_any l[k].ma l[k].mc l[k].ms d pc ps w.drew (htab.on b0.drew hlt0) (hr2.below b0.drew (Nat.le_refl _)) (hml _ (List.getElem_mem hk)) (hps.below b0.drew (Nat.le_refl _)) hpn hpv _ rfl)
    have HT := Lib.hid (fun e => tkP_of htk hk (e := e))
    have HW := Lib.hid hw
    obtain ⟨R, hR⟩ : ∃ R, walkP tk (coP l) (kidsP l) (f + 1) k = R := ⟨_, rfl⟩
    rw [hR] at hL ⊢
    have HL := Lib.hid hL
    have HRd := Lib.hid hR
    have HB := Lib.hid b0
    clear hR
    generalize l[k].ma = ma at *
    generalize l[k].mc = mc at *
    generalize hms : l[k].ms = ms at *
    clear hw hL hr2 b0 hms
    go_enter Tryz.func40, Tryz.ntmps40
    go_wp2_with fail
    go_step3
    go_wp2_with fail
    refine wp_region_any (by kernel_rfl) ?_
    change wpAny _ _ _ _ _ _ _ (World.drew _)
    have hS : (fun w' : World => w'.cell? ⟨lb, 0, none⟩ = some (.slice (some ⟨rb, ro, none⟩) l.length c) ∧ w'.cell? ⟨pb, 0, none⟩ = some (.slice d ps.length pc) ∧ w'.cell? ⟨rb, ro + k * 8 + 1, none⟩ = some (.slice ma ms.length mc)) w.drew := ⟨cl1, cp1, cr1⟩
    refine wpAny_of_held (S := fun w' => w'.cell? ⟨lb, 0, none⟩ = some (.slice (some ⟨rb, ro, none⟩) l.length c) ∧ w'.cell? ⟨pb, 0, none⟩ = some (.slice d ps.length pc) ∧ w'.cell? ⟨rb, ro + k * 8 + 1, none⟩ = some (.slice ma ms.length mc)) _ _ _ _ ?_
    refine wpAnyH_take_at (i := 0) (some 13) (v := ?_) rfl rfl (by as_aux_lemma => kernel_rfl) (by as_aux_lemma => kernel_rfl) (by as_aux_lemma => kernel_rfl) (fun _ _ _ h => h) (Or.inl ⟨by kernel_rfl, ?_⟩) hS ?_
    rotate_left
    · intro w hSw; obtain ⟨e1, e2, e3⟩ := hSw; go_simp
      first | done | with_reducible rfl
    skip
    refine wpAnyH_take_at (i := 1) (some 14) (v := ?_) rfl rfl (by as_aux_lemma => kernel_rfl) (by as_aux_lemma => kernel_rfl) (by as_aux_lemma => kernel_rfl) (fun _ _ _ h => h) (Or.inl ⟨by kernel_rfl, ?_⟩) hS ?_
    rotate_left
    · intro w hSw; obtain ⟨e1, e2, e3⟩ := hSw; go_simp
      first | done | with_reducible rfl
    skip
    refine wpAnyH_take_at (i := 2) (some 15) (v := ?_) rfl rfl (by as_aux_lemma => kernel_rfl) (by as_aux_lemma => kernel_rfl) (by as_aux_lemma => kernel_rfl) (fun _ _ _ h => h) (Or.inl ⟨by kernel_rfl, ?_⟩) hS ?_
    rotate_left
    · intro w hSw; obtain ⟨e1, e2, e3⟩ := hSw; go_simp
      first | done | with_reducible rfl
    skip
    refine wpAnyH_take_at (i := 3) (some 16) (v := ?_) rfl rfl (by as_aux_lemma => kernel_rfl) (by as_aux_lemma => kernel_rfl) (by as_aux_lemma => kernel_rfl) (fun _ _ _ h => h) (Or.inl ⟨by kernel_rfl, ?_⟩) hS ?_
    rotate_left
    · intro w hSw; obtain ⟨e1, e2, e3⟩ := hSw; go_simp
      first | done | with_reducible rfl
    skip
    refine wpAnyH_take_at (i := 4) (some 17) (v := ?_) rfl rfl (by as_aux_lemma => kernel_rfl) (by as_aux_lemma => kernel_rfl) (by as_aux_lemma => kernel_rfl) (fun _ _ _ h => h) (Or.inl ⟨by kernel_rfl, ?_⟩) hS ?_
    rotate_left
    · intro w hSw; obtain ⟨e1, e2, e3⟩ := hSw; go_simp
      first | done | with_reducible rfl
    skip
    refine wpAnyH_take_at (i := 5) (some 18) (v := ?_) rfl rfl (by as_aux_lemma => kernel_rfl) (by as_aux_lemma => kernel_rfl) (by as_aux_lemma => kernel_rfl) (fun _ _ _ h => h) (Or.inl ⟨by kernel_rfl, ?_⟩) hS ?_
    rotate_left
    · intro w hSw; obtain ⟨e1, e2, e3⟩ := hSw; go_simp
      first | done | with_reducible rfl
    skip
    refine wpAnyH_take_at (i := 6) (some 19) (v := ?_) rfl rfl (by as_aux_lemma => kernel_rfl) (by as_aux_lemma => kernel_rfl) (by as_aux_lemma => kernel_rfl) (fun _ _ _ h => h) (Or.inl ⟨by kernel_rfl, ?_⟩) hS ?_
    rotate_left
    · intro w hSw; obtain ⟨e1, e2, e3⟩ := hSw; go_simp
      first | done | with_reducible rfl
    skip
    refine wpAnyH_take_at (i := 7) (some 20) (v := ?_) rfl rfl (by as_aux_lemma => kernel_rfl) (by as_aux_lemma => kernel_rfl) (by as_aux_lemma => kernel_rfl) (fun _ _ _ h => h) (Or.inl ⟨by kernel_rfl, ?_⟩) hS ?_
    rotate_left
    · intro w hSw; obtain ⟨e1, e2, e3⟩ := hSw; go_simp
      first | done | with_reducible rfl
    skip
    refine wpAnyH_take_at (i := 8) (some 21) (v := ?_) rfl rfl (by as_aux_lemma => kernel_rfl) (by as_aux_lemma => kernel_rfl) (by as_aux_lemma => kernel_rfl) (fun _ _ _ h => h) (Or.inl ⟨by kernel_rfl, ?_⟩) hS ?_
    rotate_left
    · intro w hSw; obtain ⟨e1, e2, e3⟩ := hSw; go_simp
      first | done | with_reducible rfl
    skip
    refine wpAnyH_take_at (i := 9) (some 22) (v := ?_) rfl rfl (by as_aux_lemma => kernel_rfl) (by as_aux_lemma => kernel_rfl) (by as_aux_lemma => kernel_rfl) (fun _ _ _ h => h) (Or.inl ⟨by kernel_rfl, ?_⟩) hS ?_
    rotate_left
    · intro w hSw; obtain ⟨e1, e2, e3⟩ := hSw; go_simp
      first | done | with_reducible rfl
    skip
    refine wpAnyH_take_at (i := 10) (some 23) (v := ?_) rfl rfl (by as_aux_lemma => kernel_rfl) (by as_aux_lemma => kernel_rfl) (by as_aux_lemma => kernel_rfl) (fun _ _ _ h => h) (Or.inl ⟨by kernel_rfl, ?_⟩) hS ?_
    rotate_left
    · intro w hSw; obtain ⟨e1, e2, e3⟩ := hSw; go_simp
      first | done | with_reducible rfl
    skip
    refine wpAnyH_ready (rs := [11]) (by as_aux_lemma => kernel_rfl) (by simp) ?_
    refine AllReadyH.cons rfl (fun K hK => ?_) AllReadyH.nil
    go_simp
    go_wp2_with (go_at_call 41; refine HA.out.mono ?_; rintro e w1 ⟨hT, q1⟩; obtain rfl := HT.out _ hT; clear hT)
    refine hK.out _ _ ?_ (fun hS => ?_)
    · exact ⟨(q1.cell (p := ⟨lb, 0, none⟩) (World.block_lt_of_cell? _ _ hS.1)).trans hS.1, (q1.cell (p := ⟨pb, 0, none⟩) (World.block_lt_of_cell? _ _ hS.2.1)).trans hS.2.1, (q1.cell (p := ⟨rb, ro + k * 8 + 1, none⟩) (World.block_lt_of_cell? _ _ hS.2.2)).trans hS.2.2⟩
    clear hK K
    refine wpAnyH_take_at (i := 12) (some 25) (v := ?_) rfl rfl (by as_aux_lemma => kernel_rfl) (by as_aux_lemma => kernel_rfl) (by as_aux_lemma => kernel_rfl) (fun _ _ _ h => h) (Or.inl ⟨by kernel_rfl, ?_⟩) hS ?_
    rotate_left
    · intro w hSw; obtain ⟨e1, e2, e3⟩ := hSw; go_simp
      first | done | with_reducible rfl
    skip
    refine wpAnyH_take_at (i := 13) (some 26) (v := ?_) rfl rfl (by as_aux_lemma => kernel_rfl) (by as_aux_lemma => kernel_rfl) (by as_aux_lemma => kernel_rfl) (fun _ _ _ h => h) (Or.inl ⟨by kernel_rfl, ?_⟩) hS ?_
    rotate_left
    · intro w hSw; obtain ⟨e1, e2, e3⟩ := hSw; go_simp
      first | done | with_reducible rfl
    skip
    refine wpAnyH_done (by kernel_rfl) ?_ _
    have hw1 := HW.out.drew.below q1
    have HI := Lib.hid ih
    have HF := Lib.hid (hF.2 k hk)
    have HFl := Lib.hid hF.1
    have HR := Lib.hid hr
    have HCL := Lib.hid cl
    have HCF := Lib.hid cf
    clear hS cl1 cp1 cr1 hps hml hpv cl cp cf hF htab hr hr1 HA HT HB q1 ih hpb HW hl
    cases hkt : tk k with
    | false =>
      have HP : Hid (R = []) := Lib.hid (by rw [← HRd.out]; unfold walkP; rw [hkt]; rfl)
      have HW1 := Lib.hid hw1
      clear hkt hw1 HI HF HFl HR HCL HCF
      go_simp
      go_wp2
      rw [Exit.noGoto_ret]
      go_ret
      refine ⟨by rw [HP.out]; rfl, ?_⟩
      rw [HP.out, List.append_nil]
      exact HW1.out
    | true =>
      go_simp
      go_wp2
      go_step3
      have HP : Hid (R = if runKids (walkP tk (coP l) (kidsP l) f) (coP l) (kidsP l k) = [] then [k] else runKids (walkP tk (coP l) (kidsP l) f) (coP l) (kidsP l k)) := Lib.hid (by rw [← HRd.out, walkP]; simp only [hkt, if_true])
      obtain ⟨ka, kc, hk1, hk2⟩ := HF.out
      have ck : w1.cell? ⟨F, k, none⟩ = some (.slice ka (kidsP l k).length kc) := (hw1.1.cell (p := ⟨F, k, none⟩) HFl.out).trans hk1
      have cf1 : w1.cell? ⟨fb, 0, none⟩ = some (.slice (some ⟨F, 0, none⟩) l.length fc) := (hw1.1.cell (p := ⟨fb, 0, none⟩) hfb).trans HCF.out
      have HK := Lib.hid hk2
      have HKl : Hid (∀ q ∈ kidsP l k, q < l.length) := Lib.hid fun q hq => kids_lt hq
      have hks : (kidsP l k).length ≤ 1000000 := Nat.le_trans (kids_len l k l.length) hn
      clear hk1 hk2 HF hkt
      generalize kidsP l k = ks at *
      clear HRd
      generalize walkP tk (coP l) (kidsP l) f = g at *
      go_wp2
      clear ck cf1
      have HW1 := Lib.hid hw1
      clear hw1
      go_loopw [10, 32] (fun h i wr => ∃ (j : Nat) (pre : List Nat), j ≤ ks.length ∧ i = .int .i64 j ∧ h = .bool (decide (pre ≠ [])) ∧ Hid (WSt Wt wr (clo lb pb fb Wt.heap.size) (L ++ pre)) ∧ Hid (runKids g (coP l) ks = pre ++ runKids g (coP l) (ks.drop j))) (fun _ i _ => ks.length - (intOf i).toNat)
      case atStart => exact ⟨0, [], Nat.zero_le _, rfl, rfl, by rw [List.append_nil]; exact HW1, Lib.hid rfl⟩
      case round =>
        obtain ⟨j, pre, hj, rfl, rfl, HS, HE⟩ := hrel
        have hS := HS.out
        by_cases hjl : j < ks.length
        · have hjl' : (j : Int) < (ks.length : Int) := by omega
          obtain ⟨kb, ko, rfl, -, hc⟩ := HK.out.below hS.1 (Nat.le_refl _) (by omega)
          have ckj := hc j hjl
          have hql := HKl.out _ (List.getElem_mem hjl)
          have HD := Lib.hid (drop_at hjl)
          clear hc
          generalize ks[j] = q at *
          have cw : wr.cell? ⟨Wt.heap.size + 1, 0, none⟩ = some (clo lb pb fb Wt.heap.size) := cell_of_one hS.2.1
          have HI1 := Lib.hid (HI.out (ab + 1) q (L ++ pre) wr (by omega) hql hS (by
            have e1 := HE.out
            rw [HD.out] at e1
            have e2 := congrArg List.length e1
            rw [List.length_append] at e2
            have e3 := runKids_head g (coP l) q (ks.drop (j + 1))
            have e4 := HL.out
            have e5 : (runKids g (coP l) ks).length ≤ R.length := by
              rw [HP.out]
              split
              · rename_i h0; rw [h0]; simp
              · exact Nat.le_refl _
            rw [List.length_append]
            omega))
          rw [show ((ab + 1 : Nat) : Int) = (ab : Int) + 1 by omega] at HI1
          obtain ⟨hrq, -⟩ := HR.out q hql
          have HRq := Lib.hid (hrq 2 _ rfl)
          have HCo : Hid (coP l q = l[q].co) := Lib.hid (by unfold coP; simp [hql])
          have hqi : (q : Int) < (l.length : Int) := by omega
          clear hrq hS
          by_cases hg : g q = []
          · have HE2 : Hid (runKids g (coP l) ks = pre ++ runKids g (coP l) (ks.drop (j + 1))) := Lib.hid (by rw [HE.out, HD.out, runKids, if_pos hg])
            rw [hg] at HI1
            simp only [ne_eq, not_true_eq_false, decide_false, List.append_nil] at HI1
            clear HE HD hg
            unfold clo at cw
            go_wp2_with (go_at_call 40; refine HI1.out.mono ?_; rintro e w2 ⟨rfl, hw2⟩; have HW2 := Lib.hid hw2; clear hw2)
            go_roundw
            case rel => exact ⟨j + 1, pre, by omega, by go_num, by simp, HW2, HE2⟩
            case measure => simp [intOf]; omega
          · simp only [ne_eq, hg, not_false_eq_true, decide_true] at HI1
            unfold clo at cw
            cases hco : l[q].co with
            | true =>
              rw [hco] at HRq HCo
              have HE2 : Hid (runKids g (coP l) ks = (pre ++ g q) ++ runKids g (coP l) (ks.drop (j + 1))) := Lib.hid (by rw [HE.out, HD.out]; simp [runKids, hg, HCo.out])
              have HGn := Lib.hid hg
              clear HE HD HCo hco hg
              go_wp2_with (go_at_call 40; refine HI1.out.mono ?_; rintro e w2 ⟨rfl, hw2⟩; have cl2 := (hw2.1.cell (p := ⟨lb, 0, none⟩) hlb).trans HCL.out; have cr2 := (hw2.1.cell (p := ⟨rb, ro + q * 8 + 2, none⟩) hrb).trans HRq.out; rw [List.append_assoc] at hw2; have HW2 := Lib.hid hw2; clear hw2)
              go_roundw
              case rel => exact ⟨j + 1, pre ++ g q, by omega, by go_num, by simp [HGn.out], HW2, HE2⟩
              case measure => simp [intOf]; omega
            | false =>
              rw [hco] at HRq HCo
              have HR2 : Hid (R = pre ++ g q) := Lib.hid (by
                have e1 : runKids g (coP l) ks = pre ++ g q := by rw [HE.out, HD.out]; simp [runKids, hg, HCo.out]
                rw [HP.out, e1, if_neg (by simp [hg])])
              have hne : Hid (decide (R = []) = false) := Lib.hid (by rw [HR2.out]; simp [hg])
              clear HE HD HCo hco hg
              go_wp2_with (go_at_call 40; refine HI1.out.mono ?_; rintro e w2 ⟨rfl, hw2⟩; have cl2 := (hw2.1.cell (p := ⟨lb, 0, none⟩) hlb).trans HCL.out; have cr2 := (hw2.1.cell (p := ⟨rb, ro + q * 8 + 2, none⟩) hrb).trans HRq.out; rw [List.append_assoc, ← HR2.out] at hw2; have HW2 := Lib.hid hw2; clear hw2)
              rw [Exit.noGoto_ret]
              go_ret
              exact ⟨by simp [hne.out], HW2.out⟩
        · have hjl' : ¬ (j : Int) < (ks.length : Int) := by omega
          have HE2 : Hid (runKids g (coP l) ks = pre) := Lib.hid (by rw [HE.out, List.drop_of_length_le (by omega), runKids, List.append_nil])
          clear HE
          by_cases hp : pre = []
          · subst hp
            have HR2 : Hid (R = [k]) := Lib.hid (by rw [HP.out, HE2.out]; rfl)
            rw [List.append_nil] at hS
            obtain ⟨hb0, hcw, v, hv, hown⟩ := hS
            obtain ⟨ta, tc, rfl⟩ := own_shape hown
            have hlR : L.length + 1 ≤ 1000000000 := by have := HL.out; rw [HR2.out] at this; exact this
            have cT := cell_of_one hv
            have fT := free_of_one hv
            have hvl := lt_of_block hcw
            obtain ⟨i0, hi, hi0, hi1, hi2⟩ := info_parts infoInt
            clear HI HK HKl HE2 HP HS
            go_wp2_with (at_builtin; refine Hid.out ?_)
            refine Lib.hid ?_
            refine wpList_append_own _ rfl _ _ 38 rfl (Wt.heap.size + 2) 3 i0 _ 1 8 Tryz.underlying38 hi hi0 hi1 hi2 rfl (by decide) (.slice ta L.length tc) L.length (intsV L) rfl (hown.alloc _) ⟨_, 0, none⟩ 1 1 [.int .i64 (k : Int)] rfl rfl (World.news_of_block (cs := #[.int .i64 (k : Int)]) (heap_alloc_new _ _)) (by intro u' hu'; simp at hu'; subst hu'; rfl) (by unfold maxLen; omega) (by omega) (by simp; omega) ?_
            intro v2 w2 hown2 hgrow _
            obtain ⟨ta2, tc2, rfl⟩ := own_shape hown2
            obtain ⟨hv2, hst⟩ := wst_push hb0 hcw hv hown hown2 hgrow
            have HST := Lib.hid hst
            have cT2 := cell_of_one hv2
            have fT2 := free_of_one hv2
            clear hst hown2 hgrow hown hv cT fT hcw
            go_wp2
            try rw [Exit.noGoto_ret]
            go_ret
            exact ⟨by rw [HR2.out]; rfl, by rw [HR2.out]; exact HST.out⟩
          · have HR2 : Hid (R = pre) := Lib.hid (by rw [HP.out, HE2.out, if_neg hp])
            have hne : decide (pre = []) = false := by simp [hp]
            clear HI HK HKl HE2 HP hS
            go_wp2
            try rw [Exit.noGoto_ret]
            go_ret
            exact ⟨by rw [HR2.out]; simp [hp], by rw [HR2.out]; exact HS.out⟩


/-- The rows of children among the first k routes, in the call's own memory, no two in one block. -/
structure FamK (w : World) (F : Nat) (l : List Rt) (k : Nat) (vs : List Value) : Prop where
  blk : w.heap[F]? = some (.cells vs.toArray 38 (0, 0))
  len : vs.length = l.length
  own : ∀ (i : Nat) (v : Value), vs[i]? = some v → w.ownsRow (F + 1) 3 1 v (kidsTo l i k).length (intsV (kidsTo l i k))
  apart : ∀ (i j : Nat) (v u : Value), vs[i]? = some v → vs[j]? = some u → i ≠ j → ∀ b, v.ownBlock = some b → u.ownBlock ≠ some b

theorem own_below {w w' : World} {B : Nat} {e : TypeId} {size : Nat} {v : Value} {n : Nat} {xs : List Value} (h : w.ownsRow B e size v n xs) (hb : Below w.heap.size w w') : w'.ownsRow B e size v n xs :=
  h.kept (row := none) ⟨hb.os, hb.tape, hb.output, hb.size, fun k hk _ => hb.block k hk⟩ (by cases v.ownBlock with | none => exact Or.inl rfl | some k => exact Or.inr (by simp))
theorem FamK.below {w w' : World} {F : Nat} {l : List Rt} {k : Nat} {vs : List Value} (h : FamK w F l k vs) (hb : Below w.heap.size w w') : FamK w' F l k vs :=
  ⟨(hb.block F (lt_of_block h.blk)).trans h.blk, h.len, fun i v hv => own_below (h.own i v hv) hb, h.apart⟩
theorem FamK.cell {w : World} {F : Nat} {l : List Rt} {k : Nat} {vs : List Value} (h : FamK w F l k vs) {i : Nat} {v : Value} (hv : vs[i]? = some v) : w.cell? ⟨F, i, none⟩ = some v := by
  rw [cell_heap h.blk]
  simpa using hv
theorem FamK.free {w : World} {F : Nat} {l : List Rt} {k : Nat} {vs : List Value} (h : FamK w F l k vs) (i : Nat) : w.frozen? ⟨F, i, none⟩ = false := by
  simp [World.frozen?, h.blk]
/-- A route that is nobody's child here. -/
theorem FamK.skip {w : World} {F : Nat} {l : List Rt} {k : Nat} {vs : List Value} (h : FamK w F l k vs) (hk : k < l.length) (hp : ∀ i : Nat, i < l.length → l[k].par ≠ (i : Int)) : FamK w F l (k + 1) vs := by
  refine ⟨h.blk, h.len, fun i v hv => ?_, h.apart⟩
  have hi : i < l.length := by rw [← h.len]; exact (List.getElem?_eq_some_iff.1 hv).1
  rw [kidsTo_succ_no hk (hp i hi)]
  exact h.own i v hv
/-- A child more. -/
theorem FamK.pushed {w w2 Wa : World} {F : Nat} {l : List Rt} {k p g cap n : Nat} {vs : List Value} {v : Value} (h : FamK w F l k vs) (hk : k < l.length) (hp : l[k].par = (p : Int)) (hv : vs[p]? = some v) (hb : Below w.heap.size w Wa) (hn : n = (kidsTo l p k).length)
    (ho : w2.ownsRow (F + 1) 3 1 (.slice (some ⟨g, 0, none⟩) (n + 1) cap) (n + 1) (intsV (kidsTo l p k) ++ [.int .i64 (k : Int)])) (hg : Wa.grownBy w2 v.ownBlock) (hat : v.ownBlock = some g ∨ g = Wa.heap.size) :
    w2.heap[F]? = some (.cells vs.toArray 38 (0, 0)) ∧ FamK (w2.setCell ⟨F, p, none⟩ (.slice (some ⟨g, 0, none⟩) (n + 1) cap)) F l (k + 1) (vs.set p (.slice (some ⟨g, 0, none⟩) (n + 1) cap)) := by
  have hFl := lt_of_block h.blk
  have hown := h.own p v hv
  have hFv : some F ≠ v.ownBlock := fun e => by have := (hown.lt F e.symm).1; omega
  have hF2 : w2.heap[F]? = some (.cells vs.toArray 38 (0, 0)) := (hg.block F (Nat.lt_of_lt_of_le hFl hb.size) hFv).trans ((hb.block F hFl).trans h.blk)
  have hgF : F + 1 ≤ g := (ho.lt g rfl).1
  have hpl : p < vs.length := (List.getElem?_eq_some_iff.1 hv).1
  refine ⟨hF2, ?_, by rw [List.length_set, h.len], ?_, ?_⟩
  · rw [setCell_eq_setRow w2 F p _ 38 (0, 0) _ hF2, setRow_heap w2 F _ _ 38 _ hF2]
    simp
  · intro i u hu
    by_cases e : i = p
    · subst e
      rw [List.getElem?_set_self hpl] at hu
      obtain rfl := Option.some.inj hu
      rw [kidsTo_succ_yes hk hp, List.length_append, intsV_app, ← hn]
      exact ownsRow_setCell_other ho (a := ⟨F, i, none⟩) (fun e => by have := (ho.lt _ e).1; simp at this; omega) _
    · rw [List.getElem?_set_ne (Ne.symm e)] at hu
      rw [kidsTo_succ_no hk (by rw [hp]; omega)]
      have h1 := own_below (h.own i u hu) hb
      have h2 : w2.ownsRow (F + 1) 3 1 u (kidsTo l i k).length (intsV (kidsTo l i k)) := h1.kept hg (by
        cases hub : u.ownBlock with
        | none => exact Or.inl rfl
        | some b => exact Or.inr fun e2 => h.apart i p u v hu hv e b hub e2.symm)
      exact ownsRow_setCell_other h2 (a := ⟨F, p, none⟩) (fun e => by have := (h2.lt _ e).1; simp at this; omega) _
  · intro i j x u hx hu hij b hxb hub
    have old : ∀ (q : Nat) (y : Value), vs[q]? = some y → q ≠ p → y.ownBlock = some g → False := fun q y hy hq hyb => by
      rcases hat with e | e
      · exact h.apart q p y v hy hv hq g hyb e
      · have := ((h.own q y hy).lt g hyb).2
        have := hb.size
        omega
    by_cases ei : i = p
    · subst ei
      rw [List.getElem?_set_self hpl] at hx
      obtain rfl := Option.some.inj hx
      rw [List.getElem?_set_ne hij] at hu
      obtain rfl : g = b := Option.some.inj hxb
      exact old j u hu (Ne.symm hij) hub
    · rw [List.getElem?_set_ne (Ne.symm ei)] at hx
      by_cases ej : j = p
      · subst ej
        rw [List.getElem?_set_self hpl] at hu
        obtain rfl := Option.some.inj hu
        obtain rfl : g = b := Option.some.inj hub
        exact old i x hx ei hxb
      · rw [List.getElem?_set_ne (Ne.symm ej)] at hu
        exact h.apart i j x u hx hu hij b hxb hub
theorem ints_own {w : World} {B : Nat} {v : Value} {L : List Nat} (h : w.ownsRow B 3 1 v L.length (intsV L)) : ∃ a c, v = .slice a L.length c ∧ NatsAt w a L := by
  obtain ⟨a, c, rfl⟩ := own_shape h
  refine ⟨a, c, rfl, fun hn => ?_⟩
  rcases h.2 with ⟨e, e2⟩ | ⟨g, cap, cur, e, -, hg, -⟩
  · omega
  · simp only [Value.slice.injEq, true_and] at e
    obtain ⟨rfl, rfl⟩ := e
    refine ⟨g, 0, rfl, lt_of_block hg, fun i hi => ?_⟩
    have := World.ownsRow.cellAt h i (by omega)
    rw [Nat.zero_add, this]
    simp [intsV, hi]
theorem FamK.fam {w : World} {F : Nat} {l : List Rt} {vs : List Value} (h : FamK w F l l.length vs) : FamAt w F l :=
  ⟨lt_of_block h.blk, fun i hi => by
    have hv : vs[i]? = some (vs[i]'(by rw [h.len]; exact hi)) := List.getElem?_eq_getElem _
    obtain ⟨a, c, e, hI⟩ := ints_own (h.own i _ hv)
    exact ⟨a, c, by rw [h.cell hv, e]; rfl, hI⟩⟩
theorem famK_new (w : World) (l : List Rt) : FamK (w.alloc (.cells (madeCells #[.slice none 0 0] l.length) 38)) w.heap.size l 0 (List.replicate l.length (.slice none 0 0)) := by
  refine ⟨(heap_new w _).trans ?_, by simp, fun i v hv => ?_, fun i j v u hv hu _ b hb => ?_⟩
  · congr 2
    apply Array.toList_inj.1
    rw [toList_madeCells_one]
  · have := List.eq_of_mem_replicate (List.mem_of_getElem? hv)
    subst this
    exact World.ownsRow_nil _ _ _ _
  · have := List.eq_of_mem_replicate (List.mem_of_getElem? hv)
    subst this
    cases hb

theorem infoInts : (Tryz.prog.info? 38).map (fun i => (i.zero, i.size, i.bytes)) = some (some (.slice none 0 0), 1, 24) := by kernel_rfl

set_option maxRecDepth 20000 in
set_option maxHeartbeats 4000000 in
theorem tall_any (a : Option Addr) (c : Nat) (l : List Rt) (w : World) (hl : RtsAt w a l) (hn : l.length ≤ 1000000) :
    Calls Tryz.prog 39 #[.slice a l.length c] w fun e w' => e = .returned (.slice (some ⟨w.heap.size, 0, none⟩) l.length l.length) ∧ FamAt w' w.heap.size l ∧ Below w.heap.size w w' := by
  obtain ⟨i0, hi, hi0, hi1, hi2⟩ := info_parts infoInt
  obtain ⟨j0, hj, hj0, hj1, hj2⟩ := info_parts infoInts
  have hmk : (Instr.makeSlice 82 (.int .i64 (l.length : Int)) (.int .i64 (l.length : Int))).run Tryz.prog w = .ok (.slice (some ⟨w.heap.size, 0, none⟩) l.length l.length) (w.alloc (.cells (madeCells #[.slice none 0 0] l.length) 38)) := by
    have := run_make (P := Tryz.prog) w 82 38 j0 _ Tryz.underlying82 hj hj0 .i64 .i64 l.length l.length (by omega) (Int.le_refl _) (by rw [hj2]; omega) (by omega)
    rw [hj1] at this
    simpa [Value.cells] using this
  have HNew := Lib.hid (famK_new w l)
  have HB0 := Lib.hid ((Below.refl w.heap.size w).alloc (Nat.le_refl _) (.cells (madeCells #[.slice none 0 0] l.length) 38))
  have HRl := Lib.hid hl
  clear hl
  go_enter Tryz.func39, Tryz.ntmps39
  go_wp2
  clear hmk
  go_loopw [11] (fun i wr => ∃ (k : Nat) (vs : List Value), k ≤ l.length ∧ i = .int .i64 k ∧ Hid (Below w.heap.size w wr) ∧ Hid (FamK wr w.heap.size l k vs)) (fun i _ => l.length - (intOf i).toNat)
  case atStart => exact ⟨0, _, Nat.zero_le _, rfl, HB0, HNew⟩
  case round =>
    obtain ⟨k, vs, hk, rfl, HB, HK⟩ := hrel
    by_cases hlt : k < l.length
    · have hkl : (k : Int) < (l.length : Int) := by omega
      obtain ⟨rb, ro, rfl, hrb, hr⟩ := HRl.out (by omega)
      obtain ⟨hr1, -, -⟩ := hr k hlt
      have hcell : ∀ j v, (encR l[k])[j]? = some v → wr.cell? ⟨rb, ro + k * 8 + j, none⟩ = some v := fun j v hv => (HB.out.cell (p := ⟨rb, ro + k * 8 + j, none⟩) hrb).trans (hr1 j v hv)
      have c0 : wr.cell? ⟨rb, ro + k * 8, none⟩ = some (.int .i64 l[k].par) := hcell 0 _ rfl
      have c1 := hcell 1 _ rfl
      have c2 := hcell 2 _ rfl
      have c3 := hcell 3 _ rfl
      have c4 := hcell 4 _ rfl
      have c5 := hcell 5 _ rfl
      have c6 := hcell 6 _ rfl
      have c7 := hcell 7 _ rfl
      clear hr hr1 hcell
      have HPar : Hid (∃ z, l[k].par = z) := Lib.hid ⟨_, rfl⟩
      generalize hz : l[k].par = z at *
      have HZ := Lib.hid hz
      clear hz HPar
      generalize l[k].ma = x1 at *
      generalize l[k].ms.length = x2 at *
      generalize l[k].mc = x3 at *
      generalize l[k].co = x4 at *
      generalize l[k].ba = x5 at *
      generalize l[k].bys.length = x6 at *
      generalize l[k].bc = x7 at *
      generalize l[k].rc = x8 at *
      generalize l[k].wt = x9 at *
      generalize l[k].iv = x10 at *
      generalize l[k].rp = x11 at *
      by_cases h0 : 0 ≤ z
      · by_cases h1 : z < (l.length : Int)
        · obtain ⟨p, rfl⟩ := Int.eq_ofNat_of_zero_le h0
          have hpl : p < l.length := by omega
          have hvp : vs[p]? = some (vs[p]'(by rw [HK.out.len]; exact hpl)) := List.getElem?_eq_getElem _
          generalize vs[p]'(by rw [HK.out.len]; exact hpl) = v at hvp
          have HV := Lib.hid hvp
          have hown := HK.out.own p v hvp
          obtain ⟨va, vc, rfl⟩ := own_shape hown
          have HOwn := Lib.hid hown
          have hkb := kids_len l p k
          clear hvp hown
          have bA := (Below.refl wr.heap.size wr).alloc (Nat.le_refl _) (.cells #[.int .i64 (p : Int), .slice x1 x2 x3, .bool x4, .slice x5 x6 x7, .string x8, .int .i64 x9, .int .i64 x10, .int .i64 x11] 51)
          have cR : (wr.alloc (.cells #[.int .i64 (p : Int), .slice x1 x2 x3, .bool x4, .slice x5 x6 x7, .string x8, .int .i64 x9, .int .i64 x10, .int .i64 x11] 51)).cell? ⟨wr.heap.size, 0, none⟩ = some (.int .i64 (p : Int)) := cell_heap (heap_new wr _)
          have hlw : w.heap.size < wr.heap.size := lt_of_block HK.out.blk
          have hrl : wr.heap.size < (wr.alloc (.cells #[.int .i64 (p : Int), .slice x1 x2 x3, .bool x4, .slice x5 x6 x7, .string x8, .int .i64 x9, .int .i64 x10, .int .i64 x11] 51)).heap.size := by simp
          have HBA := Lib.hid (HB.out.trans (bA.mono HB.out.size))
          go_wp2_with fail
          generalize wr.alloc (.cells #[.int .i64 (p : Int), .slice x1 x2 x3, .bool x4, .slice x5 x6 x7, .string x8, .int .i64 x9, .int .i64 x10, .int .i64 x11] 51) = W1 at *
          have HBa := Lib.hid bA
          have hK1 := HK.out.below bA
          have cF := hK1.cell HV.out
          have HO1 := Lib.hid (own_below HOwn.out bA)
          have hvb : ∀ q, (Value.slice va (kidsTo l p k).length vc).ownBlock = some q → w.heap.size + 1 ≤ q ∧ q < wr.heap.size := HOwn.out.lt
          have HVB := Lib.hid hvb
          clear c0 c1 c2 c3 c4 c5 c6 c7 hvb bA hK1
          refine wp_region_any (by kernel_rfl) ?_
          change wpAny _ _ _ _ _ _ _ (World.drew _)
          have hS : (fun w' : World => w'.cell? ⟨wr.heap.size, 0, none⟩ = some (.int .i64 (p : Int))) W1.drew := cR
          refine wpAny_of_held (S := fun w' => w'.cell? ⟨wr.heap.size, 0, none⟩ = some (.int .i64 (p : Int))) _ _ _ _ ?_
          refine wpAnyH_take_at (i := 0) (some 26) (v := ?_) rfl rfl (by as_aux_lemma => kernel_rfl) (by as_aux_lemma => kernel_rfl) (by as_aux_lemma => kernel_rfl) (fun _ _ _ h => h) (Or.inl ⟨by kernel_rfl, ?_⟩) hS ?_
          rotate_left
          · intro w hSw; have e1 := hSw; go_simp
            first | done | with_reducible rfl
          skip
          refine wpAnyH_take_at (i := 1) (some 27) (v := ?_) rfl rfl (by as_aux_lemma => kernel_rfl) (by as_aux_lemma => kernel_rfl) (by as_aux_lemma => kernel_rfl) (fun _ _ _ h => h) (Or.inl ⟨by kernel_rfl, ?_⟩) hS ?_
          rotate_left
          · intro w hSw; have e1 := hSw; go_simp
            first | done | with_reducible rfl
          skip
          refine wpAnyH_take_at (i := 2) (some 28) (v := ?_) rfl rfl (by as_aux_lemma => kernel_rfl) (by as_aux_lemma => kernel_rfl) (by as_aux_lemma => kernel_rfl) (fun _ _ _ h => h) (Or.inl ⟨by kernel_rfl, ?_⟩) hS ?_
          rotate_left
          · intro w hSw; have e1 := hSw; go_simp
            first | done | with_reducible rfl
          skip
          refine wpAnyH_take_at (i := 3) (some 29) (v := ?_) rfl rfl (by as_aux_lemma => kernel_rfl) (by as_aux_lemma => kernel_rfl) (by as_aux_lemma => kernel_rfl) (fun _ _ _ h => h) (Or.inl ⟨by kernel_rfl, ?_⟩) hS ?_
          rotate_left
          · intro w hSw; have e1 := hSw; go_simp
            first | done | with_reducible rfl
          skip
          refine wpAnyH_take_at (i := 4) (some 30) (v := ?_) rfl rfl (by as_aux_lemma => kernel_rfl) (by as_aux_lemma => kernel_rfl) (by as_aux_lemma => kernel_rfl) (fun _ _ _ h => h) (Or.inl ⟨by kernel_rfl, ?_⟩) hS ?_
          rotate_left
          · intro w hSw; have e1 := hSw; go_simp
            first | done | with_reducible rfl
          skip
          refine wpAnyH_take_at (i := 5) (some 31) (v := ?_) rfl rfl (by as_aux_lemma => kernel_rfl) (by as_aux_lemma => kernel_rfl) (by as_aux_lemma => kernel_rfl) (fun _ _ _ h => h) (Or.inl ⟨by kernel_rfl, ?_⟩) hS ?_
          rotate_left
          · intro w hSw; have e1 := hSw; go_simp
            first | done | with_reducible rfl
          skip
          refine wpAnyH_take_at (i := 6) (some 32) (v := ?_) rfl rfl (by as_aux_lemma => kernel_rfl) (by as_aux_lemma => kernel_rfl) (by as_aux_lemma => kernel_rfl) (fun _ _ _ h => h) (Or.inl ⟨by kernel_rfl, ?_⟩) hS ?_
          rotate_left
          · intro w hSw; have e1 := hSw; go_simp
            first | done | with_reducible rfl
          skip
          refine wpAnyH_take_at (i := 8) (some 34) (v := ?_) rfl rfl (by as_aux_lemma => kernel_rfl) (by as_aux_lemma => kernel_rfl) (by as_aux_lemma => kernel_rfl) (fun _ _ _ h => h) (Or.inl ⟨by kernel_rfl, ?_⟩) hS ?_
          rotate_left
          · intro w hSw; have e1 := hSw; go_simp
            first | done | with_reducible rfl
          skip
          have bN := ((Below.refl W1.heap.size W1).drew.alloc (Nat.le_refl _) (.cells #[.int .i64 (k : Int)] 3))
          have cF2 : (W1.drew.alloc (.cells #[.int .i64 (k : Int)] 3)).cell? ⟨w.heap.size, p, none⟩ = some (.slice va (kidsTo l p k).length vc) := (bN.cell (p := ⟨w.heap.size, p, none⟩) (by show w.heap.size < W1.heap.size; omega)).trans cF
          have cF3 : (W1.alloc (.cells #[.int .i64 (k : Int)] 3)).drew.cell? ⟨w.heap.size, p, none⟩ = some (.slice va (kidsTo l p k).length vc) := cF2
          have cF4 : (W1.alloc (.cells #[.int .i64 (k : Int)] 3)).cell? ⟨w.heap.size, p, none⟩ = some (.slice va (kidsTo l p k).length vc) := cF2
          refine wpAnyH_ready (rs := [7, 9]) (by as_aux_lemma => kernel_rfl) (by simp) ?_
          refine AllReadyH.cons rfl (fun K hK => ?_) (AllReadyH.cons rfl (fun K hK => ?_) AllReadyH.nil)
          · go_simp
            go_wp2_with fail
            refine hK.out _ _ hS (fun hS => ?_)
            clear hK K
            refine wpAnyH_ready (rs := [9]) (by as_aux_lemma => kernel_rfl) (by simp) ?_
            refine AllReadyH.cons rfl (fun K hK => ?_) AllReadyH.nil
            go_simp
            go_wp2_with fail
            refine hK.out _ _ ((bN.cell (p := ⟨wr.heap.size, 0, none⟩) hrl).trans hS) (fun hS => ?_)
            clear hK K
            refine wpAnyH_ready (rs := [10]) (by as_aux_lemma => kernel_rfl) (by simp) ?_
            refine AllReadyH.cons rfl (fun K hK => ?_) AllReadyH.nil
            refine step_append_lies _ rfl _ _ 38 rfl (w.heap.size + 1) 3 i0 _ 1 8 Tryz.underlying38 hi hi0 hi1 hi2 rfl (by decide) (.slice va (kidsTo l p k).length vc) (kidsTo l p k).length (intsV (kidsTo l p k)) rfl (own_below HO1.out bN) ⟨W1.heap.size, 0, none⟩ 1 1 [.int .i64 (k : Int)] rfl rfl (World.news_of_block (cs := #[.int .i64 (k : Int)]) (heap_alloc_new _ _)) (by intro u' hu'; simp at hu'; subst hu'; rfl) (by decide) (by unfold maxLen; omega) (by omega) (by simp; omega) (W1.heap.size + 1) (by simp) ?_
            intro g cap w2 ho2 hg2 hat _
            have h1ne : some wr.heap.size ≠ (Value.slice va (kidsTo l p k).length vc).ownBlock := fun e => by have := (HVB.out _ e.symm).2; omega
            have h2ne : some w.heap.size ≠ (Value.slice va (kidsTo l p k).length vc).ownBlock := fun e => by have := (HVB.out _ e.symm).1; omega
            refine hK.out _ _ ((World.cell?_of_block (hg2.block wr.heap.size (by simp; omega) h1ne)).trans hS) (fun hS => ?_)
            clear hK K
            refine wpAnyH_take_at (i := 11) (some 37) (v := ?_) rfl rfl (by as_aux_lemma => kernel_rfl) (by as_aux_lemma => kernel_rfl) (by as_aux_lemma => kernel_rfl) (fun _ _ _ h => h) (Or.inl ⟨by kernel_rfl, ?_⟩) hS ?_
            rotate_left
            · intro w hSw; have e1 := hSw; go_simp
              first | done | with_reducible rfl
            skip
            have HBn : Hid (Below wr.heap.size wr (W1.drew.alloc (.cells #[.int .i64 (k : Int)] 3))) := Lib.hid (HBa.out.trans (bN.mono HBa.out.size))
            obtain ⟨hF2, hK2⟩ := HK.out.pushed (Wa := W1.drew.alloc (.cells #[.int .i64 (k : Int)] 3)) hlt HZ.out HV.out HBn.out rfl ho2 hg2 (by rcases hat with e | e; exact Or.inl e; exact Or.inr (by rw [e]; simp))
            have HK2 := Lib.hid hK2
            have HB2 : Hid (Below w.heap.size w (w2.setCell ⟨w.heap.size, p, none⟩ (.slice (some ⟨g, 0, none⟩) ((kidsTo l p k).length + 1) cap))) := Lib.hid ((((HBA.out.trans (bN.mono (by omega))).grown hg2 (by simp; omega) (fun q hq => by have := (HVB.out q hq).1; omega))).setCell (p := ⟨w.heap.size, p, none⟩) (Nat.le_refl _) _)
            have e2 := (World.cell?_of_block (a := ⟨w.heap.size, p, none⟩) (hg2.block w.heap.size (by simp; omega) h2ne)).trans cF2
            have f2 : w2.frozen? ⟨w.heap.size, p, none⟩ = false := by simp [World.frozen?, hF2]
            clear hK2 hF2 ho2 hg2 hat
            refine wpAnyH_ready (rs := [12]) (by as_aux_lemma => kernel_rfl) (by simp) ?_
            refine AllReadyH.cons rfl (fun K hK => ?_) AllReadyH.nil
            go_simp
            go_wp2_with fail
            refine hK.out _ _ ((World.cell?_of_block (a := ⟨wr.heap.size, 0, none⟩) (Below.heap_setCell w2 ⟨w.heap.size, p, none⟩ _ wr.heap.size (by simp; omega))).trans hS) (fun hS => ?_)
            clear hK K
            refine wpAnyH_done (by kernel_rfl) ?_ _
            clear hS e2 f2 cF cF2 cF3 cF4 cR
            go_simp
            go_wp2
            go_roundw
            case rel => exact ⟨k + 1, _, by omega, by go_num, HB2, HK2⟩
            case measure => simp [intOf]; omega
          · go_simp
            go_wp2_with fail
            refine hK.out _ _ ((bN.cell (p := ⟨wr.heap.size, 0, none⟩) hrl).trans hS) (fun hS => ?_)
            clear hK K
            refine wpAnyH_ready (rs := [7]) (by as_aux_lemma => kernel_rfl) (by simp) ?_
            refine AllReadyH.cons rfl (fun K hK => ?_) AllReadyH.nil
            go_simp
            go_wp2_with fail
            refine hK.out _ _ hS (fun hS => ?_)
            clear hK K
            refine wpAnyH_ready (rs := [10]) (by as_aux_lemma => kernel_rfl) (by simp) ?_
            refine AllReadyH.cons rfl (fun K hK => ?_) AllReadyH.nil
            refine step_append_lies _ rfl _ _ 38 rfl (w.heap.size + 1) 3 i0 _ 1 8 Tryz.underlying38 hi hi0 hi1 hi2 rfl (by decide) (.slice va (kidsTo l p k).length vc) (kidsTo l p k).length (intsV (kidsTo l p k)) rfl (own_below HO1.out bN) ⟨W1.heap.size, 0, none⟩ 1 1 [.int .i64 (k : Int)] rfl rfl (World.news_of_block (cs := #[.int .i64 (k : Int)]) (heap_alloc_new _ _)) (by intro u' hu'; simp at hu'; subst hu'; rfl) (by decide) (by unfold maxLen; omega) (by omega) (by simp; omega) (W1.heap.size + 1) (by simp) ?_
            intro g cap w2 ho2 hg2 hat _
            have h1ne : some wr.heap.size ≠ (Value.slice va (kidsTo l p k).length vc).ownBlock := fun e => by have := (HVB.out _ e.symm).2; omega
            have h2ne : some w.heap.size ≠ (Value.slice va (kidsTo l p k).length vc).ownBlock := fun e => by have := (HVB.out _ e.symm).1; omega
            refine hK.out _ _ ((World.cell?_of_block (hg2.block wr.heap.size (by simp; omega) h1ne)).trans hS) (fun hS => ?_)
            clear hK K
            refine wpAnyH_take_at (i := 11) (some 37) (v := ?_) rfl rfl (by as_aux_lemma => kernel_rfl) (by as_aux_lemma => kernel_rfl) (by as_aux_lemma => kernel_rfl) (fun _ _ _ h => h) (Or.inl ⟨by kernel_rfl, ?_⟩) hS ?_
            rotate_left
            · intro w hSw; have e1 := hSw; go_simp
              first | done | with_reducible rfl
            skip
            have HBn : Hid (Below wr.heap.size wr (W1.drew.alloc (.cells #[.int .i64 (k : Int)] 3))) := Lib.hid (HBa.out.trans (bN.mono HBa.out.size))
            obtain ⟨hF2, hK2⟩ := HK.out.pushed (Wa := W1.drew.alloc (.cells #[.int .i64 (k : Int)] 3)) hlt HZ.out HV.out HBn.out rfl ho2 hg2 (by rcases hat with e | e; exact Or.inl e; exact Or.inr (by rw [e]; simp))
            have HK2 := Lib.hid hK2
            have HB2 : Hid (Below w.heap.size w (w2.setCell ⟨w.heap.size, p, none⟩ (.slice (some ⟨g, 0, none⟩) ((kidsTo l p k).length + 1) cap))) := Lib.hid ((((HBA.out.trans (bN.mono (by omega))).grown hg2 (by simp; omega) (fun q hq => by have := (HVB.out q hq).1; omega))).setCell (p := ⟨w.heap.size, p, none⟩) (Nat.le_refl _) _)
            have e2 := (World.cell?_of_block (a := ⟨w.heap.size, p, none⟩) (hg2.block w.heap.size (by simp; omega) h2ne)).trans cF2
            have f2 : w2.frozen? ⟨w.heap.size, p, none⟩ = false := by simp [World.frozen?, hF2]
            clear hK2 hF2 ho2 hg2 hat
            refine wpAnyH_ready (rs := [12]) (by as_aux_lemma => kernel_rfl) (by simp) ?_
            refine AllReadyH.cons rfl (fun K hK => ?_) AllReadyH.nil
            go_simp
            go_wp2_with fail
            refine hK.out _ _ ((World.cell?_of_block (a := ⟨wr.heap.size, 0, none⟩) (Below.heap_setCell w2 ⟨w.heap.size, p, none⟩ _ wr.heap.size (by simp; omega))).trans hS) (fun hS => ?_)
            clear hK K
            refine wpAnyH_done (by kernel_rfl) ?_ _
            clear hS e2 f2 cF cF2 cF3 cF4 cR
            go_simp
            go_wp2
            go_roundw
            case rel => exact ⟨k + 1, _, by omega, by go_num, HB2, HK2⟩
            case measure => simp [intOf]; omega
        · have hno : ∀ i : Nat, i < l.length → l[k].par ≠ (i : Int) := fun i hi e => by rw [HZ.out] at e; omega
          have HK2 := Lib.hid (HK.out.skip hlt hno)
          have HB2 := Lib.hid (HB.out.alloc HB.out.size (.cells #[.int .i64 z, .slice x1 x2 x3, .bool x4, .slice x5 x6 x7, .string x8, .int .i64 x9, .int .i64 x10, .int .i64 x11] 51))
          have HK3 := Lib.hid (HK2.out.below ((Below.refl wr.heap.size wr).alloc (Nat.le_refl _) (.cells #[.int .i64 z, .slice x1 x2 x3, .bool x4, .slice x5 x6 x7, .string x8, .int .i64 x9, .int .i64 x10, .int .i64 x11] 51)))
          clear hno HK HK2
          go_wp2
          go_roundw
          case rel => exact ⟨k + 1, vs, by omega, by go_num, HB2, HK3⟩
          case measure => simp [intOf]; omega
      · have hno : ∀ i : Nat, i < l.length → l[k].par ≠ (i : Int) := fun i hi e => by rw [HZ.out] at e; omega
        have HK2 := Lib.hid (HK.out.skip hlt hno)
        have HB2 := Lib.hid (HB.out.alloc HB.out.size (.cells #[.int .i64 z, .slice x1 x2 x3, .bool x4, .slice x5 x6 x7, .string x8, .int .i64 x9, .int .i64 x10, .int .i64 x11] 51))
        have HK3 := Lib.hid (HK2.out.below ((Below.refl wr.heap.size wr).alloc (Nat.le_refl _) (.cells #[.int .i64 z, .slice x1 x2 x3, .bool x4, .slice x5 x6 x7, .string x8, .int .i64 x9, .int .i64 x10, .int .i64 x11] 51)))
        clear hno HK HK2
        go_wp2
        go_roundw
        case rel => exact ⟨k + 1, vs, by omega, by go_num, HB2, HK3⟩
        case measure => simp [intOf]; omega
    · obtain rfl : k = l.length := by omega
      have HF := Lib.hid HK.out.fam
      clear HK
      go_wp2
      go_ret
      exact ⟨rfl, HF.out, HB.out⟩


/-- Where labels go. -/
def walkL (l : List Rt) (tk : Nat → Bool) : List Nat := if l.length = 0 then [] else walkP tk (coP l) (kidsP l) (l.length + 1) 0
/-- A call hands back numbers, in memory that it made. -/
def TellsInts (L : List Nat) (e : Ending) (w' : World) : Prop := ∃ a c, e = .returned (.slice a L.length c) ∧ NatsAt w' a L

theorem row_base {W : World} {base base' : Nat} {e : TypeId} {size : Nat} {v : Value} {k : Nat} {xs : List Value} (h : W.ownsRow base e size v k xs) (hb : base' ≤ base) : W.ownsRow base' e size v k xs := by
  refine ⟨h.1, ?_⟩
  rcases h.2 with hn | ⟨g, cap, cur, hv, hbg, rest⟩
  · exact .inl hn
  · exact .inr ⟨g, cap, cur, hv, Nat.le_trans hb hbg, rest⟩
/-- The same, and the row is the call's own. -/
def TellsRow (B : Nat) (L : List Nat) (e : Ending) (w' : World) : Prop := ∃ a c, e = .returned (.slice a L.length c) ∧ w'.ownsRow B 3 1 (.slice a L.length c) L.length (intsV L)

theorem wst_start (Wt : World) (cv : Value) : WSt Wt ((Wt.alloc (.cells #[.slice none 0 0] 38)).alloc (.cells #[cv] 84)) cv [] := by
  have h1 : ((Wt.alloc (.cells #[.slice none 0 0] 38)).alloc (.cells #[cv] 84)).heap[Wt.heap.size + 1]? = some (.cells #[cv] 84 (0, 0)) := by
    have := heap_new (Wt.alloc (.cells #[.slice none 0 0] 38)) (.cells #[cv] 84)
    rw [World.size_alloc] at this
    exact this
  refine ⟨(((Below.refl _ _).alloc (Nat.le_refl _) _).alloc (by simp) _), h1, .slice none 0 0, ?_, World.ownsRow_nil _ _ _ _⟩
  refine (Below.heap_alloc _ _ _ (by simp)).trans ?_
  exact heap_new Wt _

set_option maxRecDepth 20000 in
set_option maxHeartbeats 4000000 in
theorem tWalk_row (a : Option Addr) (c : Nat) (l : List Rt) (d : Option Addr) (pc : Nat) (ps : List Pr) (tk : Nat → Bool) (htk : TkOk l ps tk) (w : World) (htab : TabW w) (hl : RtsAt w a l) (hps : PairsAt w d ps) (hn : l.length ≤ 1000) (hml : ∀ r ∈ l, r.ms.length ≤ 9223372036854775807) (hpn : ps.length ≤ 9223372036854775807) (hpv : ∀ q ∈ ps, q.2.size ≤ 9223372036854775807) :
    Calls Tryz.prog 13 #[.slice a l.length c, .slice d ps.length pc] w fun e w' => TellsRow w.heap.size (walkL l tk) e w' ∧ Below w.heap.size w w' := by
  have htl := htab.lt
  have b1 := (Below.refl w.heap.size w).alloc (Nat.le_refl _) (.cells #[.slice a l.length c] 22)
  have b2 := b1.alloc b1.size (.cells #[.slice d ps.length pc] 40)
  by_cases h0 : l.length = 0
  · have hW : walkL l tk = [] := by unfold walkL; rw [if_pos h0]
    rw [hW]
    have HB := Lib.hid b2
    have h0' : ((l.length : Int) == 0) = true := by simp [h0]
    clear b1 b2 hW hl hps hml hpv h0
    go_enter Tryz.func13, Tryz.ntmps13
    go_wp2
    go_ret
    exact ⟨⟨none, 0, rfl, World.ownsRow_nil _ _ _ _⟩, HB.out⟩
  · have hW : walkL l tk = walkP tk (coP l) (kidsP l) (l.length + 1) 0 := by unfold walkL; rw [if_neg h0]
    rw [hW]
    have h0' : ((l.length : Int) == 0) = false := by simp [h0]
    have HA := Lib.hid (tall_any a c l _ (hl.below b2 (Nat.le_refl _)) (by omega))
    have HB2 := Lib.hid b2
    have hpos : 0 < l.length := by omega
    have cl2 : ((w.alloc (.cells #[.slice a l.length c] 22)).alloc (.cells #[.slice d ps.length pc] 40)).cell? ⟨w.heap.size, 0, none⟩ = some (.slice a l.length c) := by
      rw [World.cell?_of_block (a := ⟨w.heap.size, 0, none⟩) (Below.heap_alloc _ _ _ (by simp))]
      exact cell_heap (heap_new w _)
    have cp2 : ((w.alloc (.cells #[.slice a l.length c] 22)).alloc (.cells #[.slice d ps.length pc] 40)).cell? ⟨w.heap.size + 1, 0, none⟩ = some (.slice d ps.length pc) := by
      have := heap_new (w.alloc (.cells #[.slice a l.length c] 22)) (.cells #[.slice d ps.length pc] 40)
      rw [World.size_alloc] at this
      exact cell_heap this
    have HCL := Lib.hid cl2
    have HCP := Lib.hid cp2
    have HMain := Lib.hid (fun (Wt : World) (hb : Below w.heap.size w Wt) (fb F : Nat) (cl : Wt.cell? ⟨w.heap.size, 0, none⟩ = some (.slice a l.length c)) (cp : Wt.cell? ⟨w.heap.size + 1, 0, none⟩ = some (.slice d ps.length pc)) (cf : Wt.cell? ⟨fb, 0, none⟩ = some (.slice (some ⟨F, 0, none⟩) l.length l.length)) (hF : FamAt Wt F l) (u : World) (hu : WSt Wt u (clo w.heap.size (w.heap.size + 1) fb Wt.heap.size) []) =>
      walk1_any Wt a c l d pc ps w.heap.size (w.heap.size + 1) fb F l.length tk htk (htab.on hb htl) (hl.below hb (Nat.le_refl _)) (hps.below hb (Nat.le_refl _)) (by omega) hml hpn hpv cl cp cf hF (l.length + 1) 0 0 [] u (by omega) hpos hu (by
        have h1 := walk_few l tk (coP l) (l.length + 1) 0 hpos
        have h2 : (l.length + 1) * l.length ≤ 1001 * 1000 := Nat.mul_le_mul (by omega) hn
        simp only [List.length_nil]
        omega))
    generalize walkP tk (coP l) (kidsP l) (l.length + 1) 0 = R at *
    clear b1 b2 hW hl hps hml hpv htab cl2 cp2 h0
    go_enter Tryz.func13, Tryz.ntmps13
    go_wp2_with (go_at_call 39; refine HA.out.mono ?_; rintro e w3 ⟨rfl, hF3, hb3⟩; have HF3 := Lib.hid hF3; have HB3 := Lib.hid hb3; clear hF3 hb3; refine Hid.out ?_)
    refine Lib.hid ?_
    have hb3 := HB2.out.trans (HB3.out.mono HB2.out.size)
    have hs2 : ((w.alloc (.cells #[.slice a l.length c] 22)).alloc (.cells #[.slice d ps.length pc] 40)).heap.size = w.heap.size + 1 + 1 := by simp
    have hF3 := HF3.out
    have cl3 := (HB3.out.cell (p := ⟨w.heap.size, 0, none⟩) (by rw [hs2]; show w.heap.size < _; omega)).trans HCL.out
    have cp3 := (HB3.out.cell (p := ⟨w.heap.size + 1, 0, none⟩) (by rw [hs2]; show w.heap.size + 1 < _; omega)).trans HCP.out
    rw [hs2] at hF3
    have hbA := (Below.refl w3.heap.size w3).alloc (Nat.le_refl _) (.cells #[.slice (some ⟨w.heap.size + 1 + 1, 0, none⟩) l.length l.length] 82)
    have hl3 : w.heap.size + 1 < w3.heap.size := by have := HB3.out.size; rw [hs2] at this; omega
    have hbt := hb3.trans (hbA.mono hb3.size)
    have HM := Lib.hid (HMain.out _ hbt w3.heap.size (w.heap.size + 1 + 1) ((hbA.cell (p := ⟨w.heap.size, 0, none⟩) (by show w.heap.size < _; omega)).trans cl3) ((hbA.cell (p := ⟨w.heap.size + 1, 0, none⟩) hl3).trans cp3) (cell_heap (heap_new w3 _)) (hF3.below hbA (Nat.le_refl _)))
    have HBt := Lib.hid hbt
    have HSz : Hid (w.heap.size ≤ w3.heap.size) := Lib.hid (by omega)
    clear HMain HF3 HB3 HCL HCP HA HB2 hF3 cl3 cp3 hb3 hbt hbA hs2
    have HM1 := Lib.hid (HM.out _ (wst_start (w3.alloc (.cells #[.slice (some ⟨w.heap.size + 1 + 1, 0, none⟩) l.length l.length] 82)) (clo w.heap.size (w.heap.size + 1) w3.heap.size (w3.alloc (.cells #[.slice (some ⟨w.heap.size + 1 + 1, 0, none⟩) l.length l.length] 82)).heap.size)))
    have HEnd : Hid (∀ u, WSt (w3.alloc (.cells #[.slice (some ⟨w.heap.size + 1 + 1, 0, none⟩) l.length l.length] 82)) u (clo w.heap.size (w.heap.size + 1) w3.heap.size (w3.alloc (.cells #[.slice (some ⟨w.heap.size + 1 + 1, 0, none⟩) l.length l.length] 82)).heap.size) ([] ++ R) → ∃ ta tc, u.cell? ⟨w3.heap.size + 1, 0, none⟩ = some (.slice ta R.length tc) ∧ u.ownsRow w.heap.size 3 1 (.slice ta R.length tc) R.length (intsV R) ∧ Below w.heap.size w u) := Lib.hid fun u hu => by
      obtain ⟨h1, -, v, h3, h4⟩ := hu
      rw [World.size_alloc] at h3
      obtain ⟨ta, tc, rfl, -⟩ := ints_own h4
      exact ⟨ta, tc, cell_of_one h3, row_base h4 (by rw [World.size_alloc]; have := HSz.out; omega), HBt.out.trans (h1.mono HBt.out.size)⟩
    unfold clo at HM1 HEnd
    simp only [World.size_alloc] at HM1 HEnd
    clear HM HBt
    go_wp2_with (go_at_call 40; refine HM1.out.mono ?_; rintro e w5 ⟨rfl, hw5⟩; obtain ⟨ta, tc, ct, hI, hbE⟩ := HEnd.out _ hw5; clear hw5)
    go_ret
    exact ⟨⟨ta, tc, rfl, hI⟩, hbE⟩

theorem tWalk_any (a : Option Addr) (c : Nat) (l : List Rt) (d : Option Addr) (pc : Nat) (ps : List Pr) (tk : Nat → Bool) (htk : TkOk l ps tk) (w : World) (htab : TabW w) (hl : RtsAt w a l) (hps : PairsAt w d ps) (hn : l.length ≤ 1000) (hml : ∀ r ∈ l, r.ms.length ≤ 9223372036854775807) (hpn : ps.length ≤ 9223372036854775807) (hpv : ∀ q ∈ ps, q.2.size ≤ 9223372036854775807) :
    Calls Tryz.prog 13 #[.slice a l.length c, .slice d ps.length pc] w fun e w' => TellsInts (walkL l tk) e w' ∧ Below w.heap.size w w' :=
  (tWalk_row a c l d pc ps tk htk w htab hl hps hn hml hpn hpv).mono fun _ _ ⟨⟨a', c', h1, h2⟩, h3⟩ => ⟨⟨a', c', h1, (by obtain ⟨x, y, h4, h5⟩ := ints_own h2; simp only [Value.slice.injEq] at h4; rw [h4.1]; exact h5)⟩, h3⟩

end Go.Proofs.YtmanjegdgjeeiaaGreatDoor
