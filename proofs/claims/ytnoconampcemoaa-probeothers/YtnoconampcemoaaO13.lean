/-
  The reference of layer 16 in memory: a probe as a value, lists of who is watched. New, Ack of the reference.
-/
import Derived.Test.YtnoconampcemoaaO12
import Derived.Test.YtnoconampcemoaaBRf8
namespace Go.Proofs.Ytnoconampcemoaa
open Go Go.RowKit

/-- Who is watched, as a row: a node, its incarnation, from when on. -/
def encV (m : Mem) : List Value := [.int .u16 m.n, .int .i64 m.s, .int .i64 m.i]
def WdsAt (w : World) (a : Option Addr) (l : List Mem) : Prop := 0 < l.length → ∃ b o, a = some ⟨b, o, none⟩ ∧ b < w.heap.size ∧ ∀ i (hi : i < l.length), ∀ j v, (encV l[i])[j]? = some v → w.cell? ⟨b, o + i * 3 + j, none⟩ = some v
theorem WdsAt.below {w w' : World} {a : Option Addr} {l : List Mem} {B : Nat} (h : WdsAt w a l) (hb : Below B w w') (hB : w.heap.size ≤ B) : WdsAt w' a l := fun hn => by
  obtain ⟨b, o, rfl, hlt, hc⟩ := h hn
  exact ⟨b, o, rfl, Nat.lt_of_lt_of_le hlt (hb.size), fun i hi j v hv => (hb.cell (p := ⟨b, _, none⟩) (Nat.lt_of_lt_of_le hlt hB)).trans (hc i hi j v hv)⟩
theorem WdsAt.on {w w' : World} {a : Option Addr} {l : List Mem} (h : WdsAt w a l) (hb : Below w.heap.size w w') : WdsAt w' a l := h.below hb (Nat.le_refl _)
theorem WdsAt.cells {w : World} {a : Option Addr} {l : List Mem} (h : WdsAt w a l) (k : Nat) (hk : k < l.length) : ∃ b o, a = some ⟨b, o, none⟩ ∧ b < w.heap.size ∧
    w.cell? ⟨b, o + k * 3, none⟩ = some (.int .u16 l[k].n) ∧ w.cell? ⟨b, o + k * 3 + 1, none⟩ = some (.int .i64 l[k].s) ∧ w.cell? ⟨b, o + k * 3 + 2, none⟩ = some (.int .i64 l[k].i) := by
  obtain ⟨b, o, rfl, hlt, hc⟩ := h (by omega)
  exact ⟨b, o, rfl, hlt, hc k hk 0 _ rfl, hc k hk 1 _ rfl, hc k hk 2 _ rfl⟩
def cellsV (L : List Mem) : List Value := L.flatMap encV
theorem cellsV_append (L M : List Mem) : cellsV (L ++ M) = cellsV L ++ cellsV M := List.flatMap_append
theorem cellsV_get : ∀ (L : List Mem) (i : Nat) (hi : i < L.length) (j : Nat) (v : Value), (encV L[i])[j]? = some v → (cellsV L)[i * 3 + j]? = some v
  | p :: r, 0, _, j, v, hv => by
    have e : cellsV (p :: r) = encV p ++ cellsV r := rfl
    have hv' : (encV p)[j]? = some v := hv
    have hj := (List.getElem?_eq_some_iff.1 hv').1
    rw [e, Nat.zero_mul, Nat.zero_add, List.getElem?_append_left hj]
    exact hv'
  | p :: r, i + 1, hi, j, v, hv => by
    have := cellsV_get r i (by simpa using hi) j v hv
    have e : cellsV (p :: r) = encV p ++ cellsV r := rfl
    have l : (encV p).length = 3 := rfl
    rw [e, List.getElem?_append_right (by omega), l, show (i + 1) * 3 + j - 3 = i * 3 + j by omega]
    exact this
/-- A slice of the call's own. -/
def OwnV (w : World) (B : Nat) (v : Value) (L : List Mem) : Prop := w.ownsRow B 111 3 v L.length (cellsV L)
theorem infoVx : (Try.prog.info? 111).map (fun i => (i.zero, i.size, i.bytes)) = some (some (.agg #[.int .u16 0, .int .i64 0, .int .i64 0]), 3, 24) := by kernel_rfl
theorem OwnV.push {w : World} {B : Nat} {v : Value} {L : List Mem} {r : Mem} (h : w.ownsRow B 111 3 v (L.length + 1) (cellsV L ++ encV r)) : OwnV w B v (L ++ [r]) := by
  unfold OwnV
  rw [cellsV_append, List.length_append]
  simpa [cellsV] using h
theorem OwnV.nil (w : World) (B : Nat) : OwnV w B (.slice none 0 0) [] := World.ownsRow_nil _ _ _ _
theorem OwnV.turn {w w' : World} {B rb : Nat} {v : Value} {L : List Mem} (h : OwnV w B v L) (g : w.grownBy w' (some rb)) (hr : rb < B) : OwnV w' B v L :=
  World.ownsRow.kept h g (.inr fun e => by have := (World.ownsRow.lt h rb e).1; omega)
theorem OwnV.form {w : World} {B : Nat} {v : Value} {L : List Mem} (h : OwnV w B v L) : ∃ a c, v = .slice a L.length c ∧ (a = none → c = 0) ∧ (∀ q, a = some q → B ≤ q.block ∧ q.block < w.heap.size) ∧ WdsAt w a L := by
  rcases h.2 with ⟨rfl, h0⟩ | ⟨g, cap, cur, rfl, hg0, hg1, hcap, hmax, hcs, htk⟩
  · exact ⟨none, 0, by rw [h0], fun _ => rfl, (fun q e => by cases e), fun hn => by omega⟩
  · refine ⟨_, _, rfl, (fun e => by cases e), (fun q e => by obtain rfl := Option.some.inj e; exact ⟨hg0, ltE hg1⟩), fun hn => ⟨g, 0, rfl, ltE hg1, fun i hi j v hv => ?_⟩⟩
    have hj := (List.getElem?_eq_some_iff.1 hv).1
    have l5 : (encV L[i]).length = 3 := rfl
    rw [Nat.zero_add, World.ownsRow.cellAt h _ (by omega)]
    exact cellsV_get L i hi j v hv
theorem cellsV_len : ∀ (L : List Mem), (cellsV L).length = L.length * 3
  | [] => rfl
  | p :: r => by
    have e : cellsV (p :: r) = encV p ++ cellsV r := rfl
    have l : (encV p).length = 3 := rfl
    rw [e, List.length_append, cellsV_len r, l, List.length_cons]
    omega
theorem OwnV.on {w w' : World} {B : Nat} {v : Value} {L : List Mem} (h : OwnV w B v L) (hb : Below w.heap.size w w') : OwnV w' B v L := World.ownsRow.kept h (grownBy_of_below (r := none) hb) (by cases hv : v.ownBlock <;> simp)
theorem OwnV.base {w : World} {B B' : Nat} {v : Value} {L : List Mem} (h : OwnV w B v L) (hb : B' ≤ B) : OwnV w B' v L := by
  refine ⟨h.1, ?_⟩
  rcases h.2 with hn | ⟨g, cap, cur, hv, hbg, rest⟩
  · exact .inl hn
  · exact .inr ⟨g, cap, cur, hv, Nat.le_trans hb hbg, rest⟩
theorem OwnV.cap {w : World} {B : Nat} {a : Option Addr} {n c : Nat} {L : List Mem} (h : OwnV w B (.slice a n c) L) : L.length ≤ c := by
  rcases h.2 with ⟨e, h0⟩ | ⟨g, cap, cur, e, -, -, hcap, -⟩
  · omega
  · simp only [Value.slice.injEq] at e; omega
theorem OwnV.mems {w : World} {B : Nat} {a : Option Addr} {n c : Nat} {L : List Mem} (h : OwnV w B (.slice a n c) L) : WdsAt w a L := by
  obtain ⟨x, y, e, -, -, hat⟩ := h.form
  simp only [Value.slice.injEq] at e
  rw [e.1]
  exact hat
theorem WdsAt.skip {w w' : World} {a : Option Addr} {l : List Mem} {b : Nat} (h : WdsAt w a l) (g : w.grownBy w' (some b)) (hne : ∀ q, a = some q → q.block ≠ b) : WdsAt w' a l := fun hn => by
  obtain ⟨c, o, rfl, hlt, hc⟩ := h hn
  have := hne _ rfl
  exact ⟨c, o, rfl, Nat.lt_of_lt_of_le hlt g.size, fun i hi j v hv => (g.cell (hc i hi j v hv) (by simpa using this))⟩
theorem infoV : ∃ i, Try.prog.info? 111 = some i ∧ i.zero = some (.agg #[.int .u16 0, .int .i64 0, .int .i64 0]) ∧ i.size = 3 ∧ i.bytes = 24 := by
  have h := infoVx
  cases hq : Try.prog.info? 111 with
  | none => rw [hq] at h; cases h
  | some i => rw [hq] at h; exact ⟨i, rfl, by simpa using h⟩
/-- Who is watched, by rising nodes. -/
def wdOf (w : Nat → Wt) : Nat → Option Mem := fun k => if (w k).on = true then some ⟨(k : Int), (w k).i, (w k).a⟩ else none
def wdL (P : Pb) : List Mem := memsO (wdOf P.w) 0 64
theorem wdOfn (w : Nat → Wt) : ∀ k x, wdOf w k = some x → x.n = (k : Int) := fun k x e => by
  unfold wdOf at e
  split at e
  · obtain rfl := Option.some.inj e; rfl
  · cases e
theorem wdL_len (P : Pb) : (wdL P).length ≤ 64 := memsO_len _ _ _
theorem mem_wdL {P : Pb} {x : Mem} (h : x ∈ wdL P) : ∃ k, k < 64 ∧ (P.w k).on = true ∧ x = ⟨(k : Int), (P.w k).i, (P.w k).a⟩ := by
  unfold wdL at h
  obtain ⟨k, -, hk, e⟩ := mem_memsO.1 h
  unfold wdOf at e
  split at e
  · rename_i ho
    exact ⟨k, by omega, ho, (Option.some.inj e).symm⟩
  · cases e
theorem wdL_mem {P : Pb} {k : Nat} (hk : k < 64) (h : (P.w k).on = true) : (⟨(k : Int), (P.w k).i, (P.w k).a⟩ : Mem) ∈ wdL P := by
  unfold wdL
  exact mem_memsO.2 ⟨k, by omega, by omega, by unfold wdOf; rw [if_pos h]⟩
theorem wdL_set (P : Pb) (k : Nat) (hk : k < 64) (i a : Int) : setGo ⟨(k : Int), i, a⟩ (wdL P) false = wdL (P.setW k ⟨true, i, a⟩) := by
  unfold wdL
  rw [setGo_put (wdOfn P.w) (by simp only; omega) 64 0 (by simp only; omega) (by simp only; omega)]
  congr 1
  funext j
  simp only [Int.toNat_natCast, wdOf, Pb.setW]
  by_cases h : j = k
  · subst h; simp
  · simp only [if_neg h]
/-- A probe of the reference, as a value. -/
def rV (P : Pb) (a : Option Addr) (n c : Nat) : Array Value := #[.int .u16 (P.s : Int), .int .i64 P.per, .int .i64 P.tmo, .int .i64 P.due, .int .i64 P.qs, .bool P.qo, .bool P.qh, .int .u16 (P.qn : Int), .int .i64 P.qt, .slice a n c]
/-- A probe of the reference, in a block. -/
def RqB (w : World) (B : Nat) (P : Pb) (a : Option Addr) (n c : Nat) : Prop := w.heap[B]? = some (.cells (rV P a n c) 32 (0, 0))
theorem RqB.lt {w : World} {B : Nat} {P : Pb} {a : Option Addr} {n c : Nat} (h : RqB w B P a n c) : B < w.heap.size := ltE h
theorem RqB.below {w w' : World} {B N : Nat} {P : Pb} {a : Option Addr} {n c : Nat} (h : RqB w B P a n c) (hb : Below N w w') (hN : B < N) : RqB w' B P a n c := (hb.block B hN).trans h
theorem RqB.on {w w' : World} {B : Nat} {P : Pb} {a : Option Addr} {n c : Nat} (h : RqB w B P a n c) (hb : Below w.heap.size w w') : RqB w' B P a n c := h.below hb h.lt
theorem RqB.new (w : World) (P : Pb) (a : Option Addr) (n c : Nat) : RqB (w.alloc (.cells (rV P a n c) 32)) w.heap.size P a n c := newE w _
theorem RqB.kept {w w' : World} {B : Nat} {P : Pb} {a : Option Addr} {n c : Nat} {r : Option Nat} (h : RqB w B P a n c) (hg : w.grownBy w' r) (hr : some B ≠ r) : RqB w' B P a n c := (hg.block B h.lt hr).trans h
theorem RqB.f {w : World} {B : Nat} {P : Pb} {a : Option Addr} {n c : Nat} (h : RqB w B P a n c) (j : Nat) : w.frozen? ⟨B, j, none⟩ = false := by
  unfold RqB at h
  simp [World.frozen?, h]
structure RqAt (w : World) (B : Nat) (P : Pb) (a : Option Addr) (n c : Nat) : Prop where
  c0 : w.cell? ⟨B, 0, none⟩ = some (.int .u16 (P.s : Int))
  c1 : w.cell? ⟨B, 1, none⟩ = some (.int .i64 P.per)
  c2 : w.cell? ⟨B, 2, none⟩ = some (.int .i64 P.tmo)
  c3 : w.cell? ⟨B, 3, none⟩ = some (.int .i64 P.due)
  c4 : w.cell? ⟨B, 4, none⟩ = some (.int .i64 P.qs)
  c5 : w.cell? ⟨B, 5, none⟩ = some (.bool P.qo)
  c6 : w.cell? ⟨B, 6, none⟩ = some (.bool P.qh)
  c7 : w.cell? ⟨B, 7, none⟩ = some (.int .u16 (P.qn : Int))
  c8 : w.cell? ⟨B, 8, none⟩ = some (.int .i64 P.qt)
  c9 : w.cell? ⟨B, 9, none⟩ = some (.slice a n c)
theorem RqB.at {w : World} {B : Nat} {P : Pb} {a : Option Addr} {n c : Nat} (h : RqB w B P a n c) : RqAt w B P a n c :=
  ⟨cellE h, cellE h, cellE h, cellE h, cellE h, cellE h, cellE h, cellE h, cellE h, cellE h⟩
theorem RqB.load {w : World} {B : Nat} {P : Pb} {a : Option Addr} {n c : Nat} (h : RqB w B P a n c) : (loadVar 32 ⟨B, 0, none⟩).run Try.prog w = .ok (.agg (rV P a n c)) w :=
  run_loadVar_row w B 32 32 (rV P a n c) (0, 0) _ h Try.underlying32 rfl (by kernel_rfl)
theorem results_rq1 {fn : Func} {p : Tmp} (h : fn.results = #[.cell p 32]) (tmps : Array Value) (w : World) (b : Nat) {P : Pb} {a : Option Addr} {n c : Nat} (hp : tmps.getD p undef = .pointer (some ⟨b, 0, none⟩)) (ht : RqB w b P a n c) :
    (results fn tmps).run Try.prog w = .ok (.agg (rV P a n c)) w := by
  have hp' : tmps[p]?.getD undef = .pointer (some ⟨b, 0, none⟩) := by simpa using hp
  simp [results, h, hp', asAddr, ht.load]
theorem results_rq2 {fn : Func} {p u : Tmp} (h : fn.results = #[.cell p 32, .tmp u]) (tmps : Array Value) (w : World) (b : Nat) {P : Pb} {a : Option Addr} {n c : Nat} (hp : tmps.getD p undef = .pointer (some ⟨b, 0, none⟩)) (ht : RqB w b P a n c) :
    (results fn tmps).run Try.prog w = .ok (.tuple #[.agg (rV P a n c), tmps.getD u undef]) w := by
  have hp' : tmps[p]?.getD undef = .pointer (some ⟨b, 0, none⟩) := by simpa using hp
  simp [results, h, hp', asAddr, ht.load]
/-- A probe stored. -/
def stV (w : World) (B : Nat) (P : Pb) (a : Option Addr) (n c : Nat) : World :=
  (((((((((w.setCell ⟨B, 0, none⟩ (.int .u16 (P.s : Int))).setCell ⟨B, 1, none⟩ (.int .i64 P.per)).setCell ⟨B, 2, none⟩ (.int .i64 P.tmo)).setCell ⟨B, 3, none⟩ (.int .i64 P.due)).setCell ⟨B, 4, none⟩ (.int .i64 P.qs)).setCell ⟨B, 5, none⟩ (.bool P.qo)).setCell ⟨B, 6, none⟩ (.bool P.qh)).setCell ⟨B, 7, none⟩ (.int .u16 (P.qn : Int))).setCell ⟨B, 8, none⟩ (.int .i64 P.qt)).setCell ⟨B, 9, none⟩ (.slice a n c)
theorem RqB.store {w : World} {B : Nat} {P : Pb} {a : Option Addr} {n c : Nat} (h : RqB w B P a n c) (P' : Pb) (a' : Option Addr) (n' c' : Nat) : RqB (stV w B P' a' n' c') B P' a' n' c' := by
  unfold RqB at h ⊢
  unfold stV
  simp [World.setCell, Array.getElem?_modify, h, rV]
theorem stV_grown (w : World) (B : Nat) (P : Pb) (a : Option Addr) (n c : Nat) : w.grownBy (stV w B P a n c) (some B) :=
  (((((((((grownBy_setCell w B _ _).trans (grownBy_setCell _ B _ _)).trans (grownBy_setCell _ B _ _)).trans (grownBy_setCell _ B _ _)).trans (grownBy_setCell _ B _ _)).trans (grownBy_setCell _ B _ _)).trans (grownBy_setCell _ B _ _)).trans (grownBy_setCell _ B _ _)).trans (grownBy_setCell _ B _ _)).trans (grownBy_setCell _ B _ _)
def noP : Pb := ⟨0, 0, 0, 0, 0, 0, false, false, 0, fun _ => zW⟩
theorem wdL_new (s : Nat) (per tmo : Int) : wdL (newPb s per tmo) = [] := by
  unfold wdL memsO
  rw [List.filterMap_eq_nil_iff]
  exact fun k _ => rfl

set_option maxRecDepth 20000 in
set_option maxHeartbeats 4000000 in
theorem pqNew_ok (s : Nat) (per tmo : Int) (w : World) (hs : s < 64) (hp : spanOk per = true) (ht : spanOk tmo = true) : Calls Try.prog 24 #[.int .u16 (s : Int), .int .i64 per, .int .i64 tmo] w fun e w' =>
    e = .returned (.tuple #[.agg (rV (newPb s per tmo) none 0 0), .int .i64 0]) ∧ Below w.heap.size w w' := by
  obtain ⟨p1, p2⟩ := (spanOk_iff per).1 hp
  obtain ⟨t1, t2⟩ := (spanOk_iff tmo).1 ht
  have hs2 : ¬ (64 : Int) ≤ (s : Int) := by omega
  have k1 : ¬ per < 1 := by omega
  have k2 : ¬ tmo < 1 := by omega
  have k3 : ¬ 1099511627776 < per := by omega
  have k4 : ¬ 1099511627776 < tmo := by omega
  have HR := Lib.hid (RqB.new w (newPb s per tmo) none 0 0)
  have HB := Lib.hid ((Below.refl w.heap.size w).alloc (Nat.le_refl _) (.cells (rV (newPb s per tmo) none 0 0) 32))
  clear hs hp ht p1 p2 t1 t2
  go_enter Try.func24, Try.ntmps24
  go_wp2
  exact bodyPost_ret (results_rq2 rfl _ _ _ rfl HR.out) rfl ⟨rfl, HB.out⟩
set_option maxRecDepth 20000 in
set_option maxHeartbeats 4000000 in
theorem pqAck_any (P : Pb) (a : Option Addr) (n c : Nat) (q s : Int) (w : World) : Calls Try.prog 26 #[.agg (rV P a n c), .int .u16 q, .int .i64 s] w fun e w' =>
    e = .returned (.tuple #[.agg (rV (ackP P q s) a n c), .bool (ackB P q s)]) ∧ Below w.heap.size w w' := by
  have HR : Hid (∀ P', RqB ((w.alloc (.cells (rV P' a n c) 32)).alloc (.cells (rV P' a n c) 32)) (w.heap.size + 1) P' a n c) := Lib.hid (fun P' => by
    have := RqB.new (w.alloc (.cells (rV P' a n c) 32)) P' a n c
    rwa [World.size_alloc] at this)
  have HB : Hid (∀ P', Below w.heap.size w ((w.alloc (.cells (rV P' a n c) 32)).alloc (.cells (rV P' a n c) 32))) := Lib.hid (fun P' => ((Below.refl w.heap.size w).alloc (Nat.le_refl _) _).alloc (by simp) _)
  obtain ⟨r, hr⟩ : ∃ r, ackB P q s = r := ⟨_, rfl⟩
  have HK : Hid (ackP P q s = if r = true then P.shut else P) := Lib.hid (by unfold ackP; rw [hr])
  rw [hr]
  unfold ackB at hr
  obtain ⟨ps, pper, ptmo, pqn, pqs, pqt, pqo, pqh, pdue, pw⟩ := P
  dsimp only at hr
  cases pqo with
  | false =>
    obtain rfl : false = r := hr
    have hk : ackP ⟨ps, pper, ptmo, pqn, pqs, pqt, false, pqh, pdue, pw⟩ q s = ⟨ps, pper, ptmo, pqn, pqs, pqt, false, pqh, pdue, pw⟩ := HK.out
    rw [hk]
    clear HK hk
    unfold rV
    dsimp only
    go_enter Try.func26, Try.ntmps26
    go_wp2
    exact bodyPost_ret (results_rq2 rfl _ _ _ rfl (HR.out ⟨ps, pper, ptmo, pqn, pqs, pqt, false, pqh, pdue, pw⟩)) rfl ⟨rfl, HB.out ⟨ps, pper, ptmo, pqn, pqs, pqt, false, pqh, pdue, pw⟩⟩
  | true =>
    rw [Bool.true_and] at hr
    cases h1 : ((pqn : Int) == q) with
    | false =>
      rw [h1] at hr
      obtain rfl : false = r := hr
      have hk : ackP ⟨ps, pper, ptmo, pqn, pqs, pqt, true, pqh, pdue, pw⟩ q s = ⟨ps, pper, ptmo, pqn, pqs, pqt, true, pqh, pdue, pw⟩ := HK.out
      rw [hk]
      clear HK hk
      unfold rV
      dsimp only
      go_enter Try.func26, Try.ntmps26
      go_wp2
      exact bodyPost_ret (results_rq2 rfl _ _ _ rfl (HR.out ⟨ps, pper, ptmo, pqn, pqs, pqt, true, pqh, pdue, pw⟩)) rfl ⟨rfl, HB.out ⟨ps, pper, ptmo, pqn, pqs, pqt, true, pqh, pdue, pw⟩⟩
    | true =>
      rw [h1, Bool.true_and] at hr
      obtain rfl := eq_of_beq h1
      cases h2 : (pqs == s) with
      | false =>
        rw [h2] at hr
        obtain rfl : false = r := hr
        have hk : ackP ⟨ps, pper, ptmo, pqn, pqs, pqt, true, pqh, pdue, pw⟩ (pqn : Int) s = ⟨ps, pper, ptmo, pqn, pqs, pqt, true, pqh, pdue, pw⟩ := HK.out
        rw [hk]
        clear HK hk h1
        unfold rV
        dsimp only
        go_enter Try.func26, Try.ntmps26
        go_wp2
        exact bodyPost_ret (results_rq2 rfl _ _ _ rfl (HR.out ⟨ps, pper, ptmo, pqn, pqs, pqt, true, pqh, pdue, pw⟩)) rfl ⟨rfl, HB.out ⟨ps, pper, ptmo, pqn, pqs, pqt, true, pqh, pdue, pw⟩⟩
      | true =>
        rw [h2] at hr
        obtain rfl : true = r := hr
        obtain rfl := eq_of_beq h2
        have hk : ackP ⟨ps, pper, ptmo, pqn, pqs, pqt, true, pqh, pdue, pw⟩ (pqn : Int) pqs = ⟨ps, pper, ptmo, pqn, pqs, pqt, false, pqh, pdue, pw⟩ := HK.out
        rw [hk]
        clear HK hk h1 h2
        unfold rV
        dsimp only
        go_enter Try.func26, Try.ntmps26
        go_wp2
        exact bodyPost_ret (results_rq2 rfl _ _ _ rfl (HR.out ⟨ps, pper, ptmo, pqn, pqs, pqt, false, pqh, pdue, pw⟩)) rfl ⟨rfl, HB.out ⟨ps, pper, ptmo, pqn, pqs, pqt, false, pqh, pdue, pw⟩⟩

end Go.Proofs.Ytnoconampcemoaa
