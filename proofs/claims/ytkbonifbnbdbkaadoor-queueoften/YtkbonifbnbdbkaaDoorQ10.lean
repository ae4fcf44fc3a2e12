/-
  What Take of package queue does.
-/
import Derived.Test.YtkbonifbnbdbkaaDoorQ9
namespace Go.Proofs.YtkbonifbnbdbkaaDoor
open Go.RowKit

theorem entI_at {w : World} {B g c : Nat} {L : List Itm} (h : OwnI w B (some ⟨g, 0, none⟩) c L) (k : Nat) (hk : k < L.length) : RowI w g (k * 7) L[k] := h.row k hk
theorem entsAt_one (w : World) (x : Ent) : EntsAt (w.alloc (.cells #[.string x.k, .int .i64 x.t, .int .u16 x.o, .string x.v, .int .i64 x.u] 27)) (some ⟨w.heap.size, 0, none⟩) [x] := fun _ => by
  have h := EBlk.new w x
  refine ⟨_, 0, rfl, h.lt, fun i hi j v hv => ?_⟩
  obtain rfl : i = 0 := by simpa using hi
  have hv' : (encE x)[j]? = some v := hv
  have hj : j < 5 := (List.getElem?_eq_some_iff.1 hv').1
  rcases (by omega : j = 0 ∨ j = 1 ∨ j = 2 ∨ j = 3 ∨ j = 4) with rfl | rfl | rfl | rfl | rfl
  · exact h.c0.trans hv'
  · exact h.c1.trans hv'
  · exact h.c2.trans hv'
  · exact h.c3.trans hv'
  · exact h.c4.trans hv'
theorem OwnC.turnQ {w w' : World} {B sb : Nat} {v : Value} {T : List Ent} {a : Option Addr} (h : OwnC w B v T) (t : QTurn w w' sb a) (h1 : sb < B) (h2 : ∀ q, a = some q → q.block < B) : OwnC w' B v T := by
  unfold OwnC at h ⊢
  rcases h.2 with h0 | ⟨g, cap, cur, hv, hb, hg, rest⟩
  · exact ⟨h.1, .inl h0⟩
  · exact ⟨h.1, .inr ⟨g, cap, cur, hv, hb, (t.block g (ltE hg) (by omega) (fun q e => by have := h2 q e; omega)).trans hg, rest⟩⟩
/-- What Take does. -/
def TakePost (w : World) (B sb : Nat) (a : Option Addr) (L : List Itm) (p l room limit : Int) (e : Ending) (w' : World) : Prop :=
  (∃ v, e = .returned v ∧ OwnC w' w.heap.size v (takeQ room L).1) ∧ (∃ L1 : List Itm, L1.Perm ((takeQ room L).2.filter fun x => decide (x.s < limit)) ∧ L1.Pairwise (fun x y => ¬ lessQ y x) ∧ ∃ c' : Nat, QAt w' B sb a c' L1 p l) ∧ QTurn w w' sb a

set_option maxRecDepth 100000 in
set_option maxHeartbeats 8000000 in
theorem qTake_any (sb B c : Nat) (a : Option Addr) (L : List Itm) (p l room limit : Int) (B0 : Nat) (w : World) (h : QAt w B sb a c L p l) (hB0 : B0 ≤ w.heap.size) (hBs : B0 ≤ sb) (hBB : B0 ≤ B) (hv : TabE B0 w) (hL : L.length ≤ 1000) (hg : ∀ x ∈ L, GoodI x) (hr : -9223372036854775808 ≤ room ∧ room ≤ 9223372036854775807) :
    Calls Tryd.prog 10 #[.pointer (some ⟨sb, 0, none⟩), .int .i64 room, .int .i64 limit] w (TakePost w B sb a L p l room limit) := by
  have d1 := (Below.refl w.heap.size w).alloc (Nat.le_refl _) (.cells #[.int .i64 limit] 3)
  have hX : (w.alloc (.cells #[.int .i64 limit] 3)).cell? ⟨w.heap.size, 0, none⟩ = some (.int .i64 limit) := cellE (newE w _)
  have HX : Hid (w.heap.size ≠ sb ∧ (∀ q, a = some q → w.heap.size ≠ q.block) ∧ sb < w.heap.size ∧ (∀ q, a = some q → q.block < w.heap.size ∧ B ≤ q.block)) := Lib.hid ⟨by have := h.1.lt; omega, fun q e => by have := (h.has q e).2.1; omega, h.1.lt, fun q e => ⟨(h.has q e).2.1, (h.has q e).1⟩⟩
  have eg : ∀ args w, (callFunc 24 args).run Tryd.prog w = .ok (.enter 24 args) w := enters_of Tryd.func24 (by kernel_rfl) rfl
  have HK : Hid (∀ (M : List Itm) (W : World), M.length ≤ 1000 → QAt W B sb a c M p l → w.heap.size < W.heap.size → W.cell? ⟨w.heap.size, 0, none⟩ = some (.int .i64 limit) → Calls Tryd.prog 20 #[.pointer (some ⟨sb, 0, none⟩), .func (.func 24) #[] #[.pointer (some ⟨w.heap.size, 0, none⟩)]] W fun r w' => r = .returned (.tuple #[]) ∧ (∃ c', QAt w' B sb a c' (M.filter fun x => decide (x.s < limit)) p l) ∧ QTurn W w' sb a) :=
    Lib.hid (fun M W hM hW hlt hb => qKeep_any sb B c a M p l 24 #[.pointer (some ⟨w.heap.size, 0, none⟩)] (fun x => decide (x.s < limit)) eg W hW hM (fun V hV x => qTake1_any x w.heap.size limit V (by
      rw [World.cell?_of_block (a := ⟨w.heap.size, 0, none⟩) (hV.block w.heap.size hlt HX.out.1 HX.out.2.1)]
      exact hb)))
  obtain ⟨n, hn⟩ : ∃ n, L.length = n := ⟨_, rfl⟩
  have HI0 : Hid (MidT room L L 0 room [] ∧ QBlk (w.alloc (.cells #[.int .i64 limit] 3)) sb a n c p l ∧ OwnI (w.alloc (.cells #[.int .i64 limit] 3)) B a c L ∧ OwnC (w.alloc (.cells #[.int .i64 limit] 3)) (w.heap.size + 1) (.slice none 0 0) [] ∧ QTurn w (w.alloc (.cells #[.int .i64 limit] 3)) sb a ∧ (w.alloc (.cells #[.int .i64 limit] 3)).cell? ⟨w.heap.size, 0, none⟩ = some (.int .i64 limit) ∧ w.heap.size < (w.alloc (.cells #[.int .i64 limit] 3)).heap.size) := Lib.hid ⟨MidT.start room L, hn ▸ h.1.on d1, h.2.on d1, World.ownsRow_nil _ _ _ _, QTurn.of d1 sb a, hX, by simp⟩
  have HG := Lib.hid (And.intro hg (And.intro hv (And.intro hB0 (And.intro hBs hBB))))
  have HN := Lib.hid hn
  have c0 := (h.1.on d1).c0
  rw [hn] at c0
  have hn9 : n ≤ 1000 := by omega
  obtain ⟨hr0, hr1⟩ := hr
  unfold TakePost
  clear d1 hX h hn hg hv hB0 hBs hBB eg hL
  go_enter Tryd.func10, Tryd.ntmps10
  go_wp2
  generalize w.alloc (.cells #[.int .i64 limit] 3) = w1 at *
  go_loopw [1, 7, 18] (fun v1 v7 v18 wr => ∃ (k : Nat) (r : Int) (T : List Ent) (aT : Option Addr) (nT cT : Nat) (M : List Itm), k ≤ n ∧ r ≤ 9223372036854775807 ∧ -9223372036854775808 ≤ r ∧ v1 = .int .i64 r ∧ v7 = .slice aT nT cT ∧ v18 = .int .i64 k ∧ Hid (nT = T.length ∧ nT ≤ k) ∧ Hid (MidT room L M k r T ∧ QBlk wr sb a n c p l ∧ OwnI wr B a c M ∧ OwnC wr (w.heap.size + 1) (.slice aT nT cT) T ∧ QTurn w wr sb a ∧ wr.cell? ⟨w.heap.size, 0, none⟩ = some (.int .i64 limit) ∧ w.heap.size < wr.heap.size)) (fun _ _ v18 _ => n - (intOf v18).toNat)
  case atStart => exact ⟨0, room, [], none, 0, 0, L, Nat.zero_le _, hr1, hr0, rfl, rfl, rfl, Lib.hid ⟨rfl, Nat.le_refl _⟩, HI0⟩
  case round =>
    clear HI0 c0 hr0 hr1
    obtain ⟨k, r, T, aT, nT, cT, M, hkn, hr1, hr0, rfl, rfl, rfl, HT, HM⟩ := hrel
    by_cases hlt : k < n
    · have hkl : (k : Int) < (n : Int) := by omega
      have hkL : k < L.length := by have := HN.out; omega
      have hML := HM.out.1.len (by omega)
      have hkM : k < M.length := by omega
      obtain ⟨g, rfl⟩ := HM.out.2.2.1.there (by omega)
      have hrow := HM.out.2.2.1.row k hkM
      have HE := Lib.hid (HM.out.1.at hkL hkM)
      rw [HE.out] at hrow
      have HGx := Lib.hid (HG.out.1 _ (List.getElem_mem hkL))
      have HS1 : Hid (szE L[k].e ≤ r → MidT room L (M.set k ⟨L[k].e, L[k].s + 1, L[k].q⟩) (k + 1) (r - szE L[k].e) (T ++ [L[k].e])) := Lib.hid (fun h => HM.out.1.taken hkL h)
      have HS2 : Hid (¬ szE L[k].e ≤ r → MidT room L M (k + 1) r T) := Lib.hid (fun h => HM.out.1.left hkL h)
      have HKM := Lib.hid hkM
      have HOs := Lib.hid (fun (W : World) (hW : OwnI W B (some ⟨g, 0, none⟩) c M) (s : Int) => hW.sent k hkM s)
      simp only [HE.out] at HOs
      have HRw : Hid (∀ W, OwnI W B (some ⟨g, 0, none⟩) c M → W.cell? ⟨g, k * 7 + 5, none⟩ = some (.int .i64 L[k].s)) := Lib.hid (fun W hW => by
        have := (hW.row k hkM).2.2.2.2.2.1
        rw [HE.out] at this
        exact this)
      have HMM := Lib.hid (And.intro hML (HM.out.2))
      generalize L[k] = x at *
      clear hkL hkM hML HM HE
      have d2 := (Below.refl wr.heap.size wr).alloc (Nat.le_refl _) (.cells #[.string x.e.k, .int .i64 x.e.t, .int .u16 x.e.o, .string x.e.v, .int .i64 x.e.u, .int .i64 x.s, .int .i64 x.q] 47)
      have bx := IBlk.new wr x
      have hB1 : B0 ≤ wr.heap.size := Nat.le_trans HG.out.2.2.1 (Nat.le_of_lt HMM.out.2.2.2.2.2.2)
      have HTb : Hid (∀ W, QTurn w W sb (some ⟨g, 0, none⟩) → TabE B0 W) := Lib.hid (fun W hW => HG.out.2.1.on (hW.below HG.out.2.2.2.1 (fun q e => Nat.le_trans HG.out.2.2.2.2 (HX.out.2.2.2 q e).2) HG.out.2.2.1))
      have HZ := Lib.hid (qSize_any x.e HGx.out.1 HGx.out.2.1 B0 _ (Nat.le_trans hB1 d2.size) (HTb.out _ (HMM.out.2.2.2.2.1.on d2)))
      have hz0 := (putEn_lenQ x.e HGx.out.1 HGx.out.2.1).2
      have hs0 := HGx.out.2.2
      have HM2 : Hid (∃ W, W = wr.alloc (.cells #[.string x.e.k, .int .i64 x.e.t, .int .u16 x.e.o, .string x.e.v, .int .i64 x.e.u, .int .i64 x.s, .int .i64 x.q] 47) ∧ QBlk W sb (some ⟨g, 0, none⟩) n c p l ∧ OwnI W B (some ⟨g, 0, none⟩) c M ∧ OwnC W (w.heap.size + 1) (.slice aT nT cT) T ∧ QTurn w W sb (some ⟨g, 0, none⟩) ∧ W.cell? ⟨w.heap.size, 0, none⟩ = some (.int .i64 limit) ∧ w.heap.size < W.heap.size) :=
        Lib.hid ⟨_, rfl, HMM.out.2.1.on d2, HMM.out.2.2.1.on d2, HMM.out.2.2.2.1.on d2, HMM.out.2.2.2.2.1.on d2, (d2.cell (p := ⟨w.heap.size, 0, none⟩) HMM.out.2.2.2.2.2.2).trans HMM.out.2.2.2.2.2.1, Nat.lt_of_lt_of_le HMM.out.2.2.2.2.2.2 d2.size⟩
      have HBx := Lib.hid bx
      unfold szE at HS1 HS2
      obtain ⟨N, hN⟩ : ∃ N, (putEn x.e).length = N := ⟨_, rfl⟩
      rw [hN] at HZ HS1 HS2 hz0
      obtain ⟨r0, r1, r2, r3, r4, r5, r6⟩ := hrow
      obtain ⟨x0, x1, x2, x3, x4, -, -⟩ := bx.cs
      clear d2 bx hN HGx HG HMM
      obtain ⟨⟨kx, tx, ox, vx, ux⟩, sx, qx⟩ := x
      dsimp only at *
      go_wp2_with (go_at_call 16; refine HZ.out.mono ?_; rintro e w2 ⟨rfl, q2⟩; replace q2 := Lib.hid q2; refine Hid.out ?_)
      refine Lib.hid ?_
      obtain ⟨W, hW, m1, m2, m3, m4, m5, m6⟩ := HM2.out
      subst hW
      have HM3 := Lib.hid (And.intro (m1.on q2.out) (And.intro (m2.on q2.out) (And.intro (m3.on q2.out) (And.intro (m4.on q2.out) (And.intro ((q2.out.cell (p := ⟨w.heap.size, 0, none⟩) m6).trans m5) (Nat.lt_of_lt_of_le m6 q2.out.size))))))
      obtain ⟨x0, x1, x2, x3, x4, -, -⟩ := (HBx.out.on q2.out).cs
      dsimp only at x0 x1 x2 x3 x4
      clear r0 r1 r2 r3 r4 r5 r6 m1 m2 m3 m4 m5 m6 HM2 HZ HBx q2
      by_cases hsz : (N : Int) ≤ r
      · have HF := Lib.hid (HS1.out hsz)
        clear HS1 HS2
        obtain ⟨m1, m2, m3, m4, m5, m6⟩ := HM3.out
        have hrw : IntKind.i64.wrap (r - (N : Int)) = r - (N : Int) := by rw [IntKind.wrap_i64]; omega
        have d3 := (Below.refl w2.heap.size w2).alloc (Nat.le_refl _) (.cells #[.string kx, .int .i64 tx, .int .u16 ox, .string vx, .int .i64 ux] 27)
        have hat := entsAt_one w2 ⟨kx, tx, ox, vx, ux⟩
        have ho3 := m3.on d3
        have hTl : T.length + 1 ≤ 1099511627776 := by have := HT.out; omega
        have hB3 : w.heap.size + 1 ≤ (w2.alloc (.cells #[.string kx, .int .i64 tx, .int .u16 ox, .string vx, .int .i64 ux] 27)).heap.size := Nat.le_trans m6 d3.size
        have HM4 := Lib.hid (And.intro (m1.on d3) (And.intro (m2.on d3) (And.intro (m4.on d3) (And.intro ((d3.cell (p := ⟨w.heap.size, 0, none⟩) m6).trans m5) (Nat.lt_of_lt_of_le m6 d3.size)))))
        have HBT := Lib.hid hB3
        clear m1 m2 m3 m4 m5 m6 HM3 d3
        go_wp2_with (at_builtin; refine wpList_append_ents _ rfl _ _ rfl (w.heap.size + 1) (.slice aT nT cT) T rfl ho3 (some ⟨w2.heap.size, 0, none⟩) 1 1 [⟨kx, tx, ox, vx, ux⟩] rfl rfl hat (fun e => by cases e) hTl hB3 ?_; intro v4 w4 o4 g4; refine Hid.out ?_)
        refine Lib.hid ?_
        generalize (w2.alloc (.cells #[.string kx, .int .i64 tx, .int .u16 ox, .string vx, .int .i64 ux] 27)) = w3 at *
        have b4 : Below (w.heap.size + 1) w3 w4 := (Below.refl (w.heap.size + 1) w3).grown g4 HBT.out (fun j e => (World.ownsRow.lt ho3 j e).1)
        have hge : g < w.heap.size ∧ B ≤ g := HX.out.2.2.2 _ rfl
        have hsl := HX.out.2.2.1
        obtain ⟨m1, m2, m4, m5, m6⟩ := HM4.out
        have k1 : QBlk w4 sb (some ⟨g, 0, none⟩) n c p l := m1.below b4 (by omega)
        have k2 : OwnI w4 B (some ⟨g, 0, none⟩) c M := m2.keep (fun q e => b4.block _ (by obtain rfl := Option.some.inj e; show g < _; omega))
        have k4 : QTurn w w4 sb (some ⟨g, 0, none⟩) := ⟨b4.os.trans m4.os, b4.tape.trans m4.tape, b4.output.trans m4.output, Nat.le_trans m4.size b4.size, fun j hj h1 h2 => (b4.block j (by omega)).trans (m4.block j hj h1 h2)⟩
        have k5 := (b4.cell (p := ⟨w.heap.size, 0, none⟩) (by show w.heap.size < _; omega)).trans m5
        have c04 := k1.c0
        have cs4 := HRw.out w4 k2
        have fs4 := k2.frz (k * 7 + 5)
        obtain ⟨ks, gs⟩ := HOs.out w4 k2 (sx + 1)
        have hsw : IntKind.i64.wrap (sx + 1) = sx + 1 := by rw [IntKind.wrap_i64]; omega
        obtain ⟨a4, cc4, rfl, -, hq4, he4⟩ := o4.form
        have e4 : (T ++ [(⟨kx, tx, ox, vx, ux⟩ : Ent)]).length = nT + 1 := by rw [List.length_append, HT.out.1]; rfl
        have HG5 : Hid (MidT room L (M.set k ⟨⟨kx, tx, ox, vx, ux⟩, sx + 1, qx⟩) (k + 1) (r - (N : Int)) (T ++ [⟨kx, tx, ox, vx, ux⟩]) ∧ QBlk (w4.setCell ⟨g, k * 7 + 5, none⟩ (.int .i64 (sx + 1))) sb (some ⟨g, 0, none⟩) n c p l ∧ OwnI (w4.setCell ⟨g, k * 7 + 5, none⟩ (.int .i64 (sx + 1))) B (some ⟨g, 0, none⟩) c (M.set k ⟨⟨kx, tx, ox, vx, ux⟩, sx + 1, qx⟩) ∧ OwnC (w4.setCell ⟨g, k * 7 + 5, none⟩ (.int .i64 (sx + 1))) (w.heap.size + 1) (.slice a4 (nT + 1) cc4) (T ++ [⟨kx, tx, ox, vx, ux⟩]) ∧ QTurn w (w4.setCell ⟨g, k * 7 + 5, none⟩ (.int .i64 (sx + 1))) sb (some ⟨g, 0, none⟩) ∧ (w4.setCell ⟨g, k * 7 + 5, none⟩ (.int .i64 (sx + 1))).cell? ⟨w.heap.size, 0, none⟩ = some (.int .i64 limit) ∧ w.heap.size < (w4.setCell ⟨g, k * 7 + 5, none⟩ (.int .i64 (sx + 1))).heap.size) :=
          Lib.hid ⟨HF.out, k1.kept gs (fun e => by have := Option.some.inj e; have := k1.ne k2 _ rfl; dsimp only at this; omega), ks, by
            rw [e4] at o4
            exact World.ownsRow.kept o4 gs (by
              cases ha : a4 with
              | none => exact .inl rfl
              | some q =>
                refine .inr (fun e => ?_)
                have h1 := (hq4 q ha).1
                have h2 : q.block = g := by simpa [Value.ownBlock] using e
                omega), k4.step (QTurn.grown gs sb rfl), (World.cell?_of_block (a := ⟨w.heap.size, 0, none⟩) (gs.block w.heap.size (Nat.lt_of_lt_of_le m6 b4.size) (fun e => by have := Option.some.inj e; omega))).trans k5, Nat.lt_of_lt_of_le (Nat.lt_of_lt_of_le m6 b4.size) gs.size⟩
        rw [e4]
        clear m1 m2 m4 m5 m6 k1 k2 k4 k5 ks gs HM4 HF ho3 hat o4 g4 b4 HBT he4 hq4 e4 hTl hB3 hge hsl HRw HOs x0 x1 x2 x3 x4
        go_wp2
        go_roundw
        case rel => exact ⟨k + 1, r - (N : Int), T ++ [⟨kx, tx, ox, vx, ux⟩], a4, nT + 1, cc4, _, by omega, by omega, by omega, by go_num, rfl, by go_num, Lib.hid ⟨by rw [List.length_append, HT.out.1]; rfl, by have := HT.out.2; omega⟩, HG5⟩
        case measure => simp [intOf]; omega
      · have HF := Lib.hid (HS2.out (by omega))
        clear HS1 HS2 x0 x1 x2 x3 x4
        go_wp2
        go_roundw
        case rel => exact ⟨k + 1, r, T, aT, nT, cT, M, by omega, hr1, hr0, rfl, rfl, by go_num, Lib.hid ⟨HT.out.1, by have := HT.out.2; omega⟩, Lib.hid ⟨HF.out, HM3.out⟩⟩
        case measure => simp [intOf]; omega
    · have hkl : ¬ (k : Int) < (n : Int) := by omega
      obtain rfl : k = n := by omega
      obtain ⟨m0, m1, m2, m3, m4, m5, m6⟩ := HM.out
      rw [← HN.out] at m0
      have hML := m0.len (Nat.le_refl _)
      obtain ⟨e1, e2⟩ := m0.end
      have hq : QAt wr B sb a c M p l := ⟨by rw [hML, HN.out]; exact m1, m2⟩
      have HKx := Lib.hid (HK.out M wr (by have := HN.out; omega) hq m6 m5)
      have HM9 := Lib.hid (And.intro m3 (And.intro m4 (And.intro e1 (And.intro hML (And.intro HT.out.1 e2)))))
      clear m0 m1 m2 m3 m4 m5 m6 hq HM HK e2 hML
      go_wp2_with (go_at_call 20; refine HKx.out.mono ?_; rintro e w2 ⟨rfl, ⟨c2, h2⟩, t2⟩; replace h2 := Lib.hid h2; replace t2 := Lib.hid t2; refine Hid.out ?_)
      refine Lib.hid ?_
      have HOx := Lib.hid (qOrder_any sb B c2 a _ p l w2 h2.out (Nat.le_trans (List.length_filter_le _ _) (by have := HM9.out.2.2.2.1; have := HN.out; omega)))
      clear HKx h2
      go_wp2_with (go_at_call 22; refine HOx.out.mono ?_; rintro e w3 ⟨rfl, ⟨L1, hp1, hs1, h3⟩, t3⟩; replace hp1 := Lib.hid hp1; replace hs1 := Lib.hid hs1; replace h3 := Lib.hid h3; replace t3 := Lib.hid t3; refine Hid.out ?_)
      refine Lib.hid ?_
      clear HOx
      go_wp2
      go_ret
      obtain ⟨o1, t1, e1, -, e5, e2⟩ := HM9.out
      have o3 := (o1.turnQ t2.out (by have := HX.out.2.2.1; omega) (fun q e => by have := (HX.out.2.2.2 q e).1; omega)).turnQ t3.out (by have := HX.out.2.2.1; omega) (fun q e => by have := (HX.out.2.2.2 q e).1; omega)
      exact ⟨⟨_, rfl, by rw [← e1]; exact o3.base (by omega)⟩, ⟨L1, by rw [← e2]; exact hp1.out, hs1.out, c2, h3.out⟩, (t1.step t2.out).step t3.out⟩

end Go.Proofs.YtkbonifbnbdbkaaDoor
