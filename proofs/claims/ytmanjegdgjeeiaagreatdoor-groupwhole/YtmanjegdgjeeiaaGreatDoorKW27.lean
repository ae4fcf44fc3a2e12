/-
  The reference's Light. Groups, plainly: what the alerts, one behind the other, make of them. What keeps through the filling. The map's calls in these words; what holds while groups are filled. One group, one alert put behind those of the call's own.
-/
import Derived.Test.YtmanjegdgjeeiaaGreatDoorKW26
import Derived.Test.YtmanjegdgjeeiaaGreatDoorKW24
namespace Go.Proofs.YtmanjegdgjeeiaaGreatDoor
open Go.RowKit

/-- A configuration is light. -/
def LightC (l : List Rt) (ls : List Rl) : Prop := l.length ≤ 20 ∧ ls.length ≤ 12 ∧ (∀ i (hi : i < l.length), l[i].ms.length ≤ 12 ∧ l[i].bys.length ≤ 12) ∧ ∀ i (hi : i < ls.length), ls[i].src.length ≤ 12 ∧ ls[i].tgt.length ≤ 12 ∧ ls[i].eqs.length ≤ 12

set_option maxRecDepth 20000 in
set_option maxHeartbeats 4000000 in
theorem uLight_any (a : Option Addr) (c : Nat) (l : List Rt) (b : Option Addr) (d : Nat) (ls : List Rl) (pt rs : Int) (w : World) (hl : RtsAt w a l) (hls : RlsAt w b ls) (hn : l.length ≤ 9223372036854775807) (hm : ls.length ≤ 9223372036854775807) :
    Calls Tryz.prog 6 #[.agg #[.slice a l.length c, .slice b ls.length d, .int .i64 pt, .int .i64 rs]] w fun e w' => Tells (LightC l ls) e ∧ Below w.heap.size w w' := by
  have hA := (Below.refl w.heap.size w).alloc (Nat.le_refl _) (.cells #[.slice a l.length c, .slice b ls.length d, .int .i64 pt, .int .i64 rs] 25)
  have HB := Lib.hid hA
  have HNo : Hid (¬ LightC l ls → Tells (LightC l ls) (.returned (.bool false))) := Lib.hid fun h => ⟨false, rfl, by simp [h]⟩
  have HYes : Hid (LightC l ls → Tells (LightC l ls) (.returned (.bool true))) := Lib.hid fun h => ⟨true, rfl, by simp [h]⟩
  have HX1 : Hid (LightC l ls → l.length ≤ 20 ∧ ls.length ≤ 12) := Lib.hid fun h => ⟨h.1, h.2.1⟩
  have HX2 : Hid (LightC l ls → ∀ i (hi : i < l.length), l[i].ms.length ≤ 12 ∧ l[i].bys.length ≤ 12) := Lib.hid fun h => h.2.2.1
  have HX3 : Hid (LightC l ls → ∀ i (hi : i < ls.length), ls[i].src.length ≤ 12 ∧ ls[i].tgt.length ≤ 12 ∧ ls[i].eqs.length ≤ 12) := Lib.hid fun h => h.2.2.2
  by_cases h16 : 20 < l.length
  · have h16' : (20 : Int) < (l.length : Int) := by omega
    have HT := Lib.hid (HNo.out fun h => by have := (HX1.out h).1; omega)
    generalize LightC l ls = P at *
    clear hl hls hA HX2 HX3
    go_enter Tryz.func6, Tryz.ntmps6
    go_wp2
    go_ret
    exact ⟨HT.out, HB.out⟩
  have h16' : ¬ (20 : Int) < (l.length : Int) := by omega
  by_cases h8 : 12 < ls.length
  · have h8' : (12 : Int) < (ls.length : Int) := by omega
    have HT := Lib.hid (HNo.out fun h => by have := (HX1.out h).2; omega)
    generalize LightC l ls = P at *
    clear hl hls hA HX2 HX3
    go_enter Tryz.func6, Tryz.ntmps6
    go_wp2
    go_ret
    exact ⟨HT.out, HB.out⟩
  have h8' : ¬ (12 : Int) < (ls.length : Int) := by omega
  have HAll : Hid ((∀ i (hi : i < l.length), l[i].ms.length ≤ 12 ∧ l[i].bys.length ≤ 12) → (∀ i (hi : i < ls.length), ls[i].src.length ≤ 12 ∧ ls[i].tgt.length ≤ 12 ∧ ls[i].eqs.length ≤ 12) → LightC l ls) := Lib.hid fun h1 h2 => ⟨by omega, by omega, h1, h2⟩
  have HL := Lib.hid hl
  have HLs := Lib.hid hls
  have HBk : Hid (CfBlk (w.alloc (.cells #[.slice a l.length c, .slice b ls.length d, .int .i64 pt, .int .i64 rs] 25)) w.heap.size a l.length c b ls.length d pt rs) := Lib.hid (heap_new w _)
  generalize LightC l ls = P at *
  clear hl hls hA HX1
  go_enter Tryz.func6, Tryz.ntmps6
  go_wp2
  go_loopw [3] (fun i wr => ∃ k : Nat, k ≤ l.length ∧ i = .int .i64 k ∧ Hid (Below w.heap.size w wr) ∧ Hid (CfBlk wr w.heap.size a l.length c b ls.length d pt rs) ∧ Hid (∀ j (_ : j < k) (hj : j < l.length), l[j].ms.length ≤ 12 ∧ l[j].bys.length ≤ 12)) (fun i _ => l.length - (intOf i).toNat)
  case atStart => exact ⟨0, Nat.zero_le _, rfl, HB, HBk, Lib.hid fun j hj => absurd hj (Nat.not_lt_zero _)⟩
  case round =>
    clear HB HBk
    obtain ⟨k, hk, rfl, HB, HBk, HA⟩ := hrel
    have cc0 : wr.cell? ⟨w.heap.size, 0, none⟩ = some (.slice a l.length c) := cell_heap HBk.out
    have cc1 : wr.cell? ⟨w.heap.size, 1, none⟩ = some (.slice b ls.length d) := cell_heap HBk.out
    by_cases hlt : k < l.length
    · have hkl : (k : Int) < (l.length : Int) := by omega
      obtain ⟨rb, ro, rfl, hrb, hr⟩ := HL.out (by omega)
      obtain ⟨hr1, -, -⟩ := hr k hlt
      have c1 : wr.cell? ⟨rb, ro + k * 8 + 1, none⟩ = some (.slice l[k].ma l[k].ms.length l[k].mc) := (HB.out.cell (p := ⟨rb, ro + k * 8 + 1, none⟩) hrb).trans (hr1 1 _ rfl)
      have c3 : wr.cell? ⟨rb, ro + k * 8 + 3, none⟩ = some (.slice l[k].ba l[k].bys.length l[k].bc) := (HB.out.cell (p := ⟨rb, ro + k * 8 + 3, none⟩) hrb).trans (hr1 3 _ rfl)
      clear hr hr1
      have HN1 : Hid (¬ (l[k].ms.length ≤ 12 ∧ l[k].bys.length ≤ 12) → ¬ P) := Lib.hid fun h hp => h (HX2.out hp k hlt)
      have HA2 : Hid (l[k].ms.length ≤ 12 ∧ l[k].bys.length ≤ 12 → ∀ j (_ : j < k + 1) (hj : j < l.length), l[j].ms.length ≤ 12 ∧ l[j].bys.length ≤ 12) := Lib.hid fun h0 j hj hl => by
        by_cases e : j = k
        · subst e; exact h0
        · exact HA.out j (by omega) hl
      generalize l[k].ma = x1 at *
      generalize l[k].mc = x3 at *
      generalize l[k].ba = x5 at *
      generalize l[k].bc = x7 at *
      generalize l[k].ms.length = x2 at *
      generalize l[k].bys.length = x6 at *
      clear HA
      by_cases g1 : 12 < x2
      · have g1' : (12 : Int) < (x2 : Int) := by omega
        have HT := Lib.hid (HNo.out (HN1.out fun h => by omega))
        clear HN1 HA2 HX2 HX3 HAll
        go_wp2
        go_ret
        exact ⟨HT.out, HB.out⟩
      have g1' : ¬ (12 : Int) < (x2 : Int) := by omega
      by_cases g2 : 12 < x6
      · have g2' : (12 : Int) < (x6 : Int) := by omega
        have HT := Lib.hid (HNo.out (HN1.out fun h => by omega))
        clear HN1 HA2 HX2 HX3 HAll
        go_wp2
        go_ret
        exact ⟨HT.out, HB.out⟩
      · have g2' : ¬ (12 : Int) < (x6 : Int) := by omega
        have HA3 := Lib.hid (HA2.out ⟨by omega, by omega⟩)
        clear HN1 HA2
        go_wp2
        go_roundw
        case rel => exact ⟨k + 1, by omega, by go_num, HB, HBk, HA3⟩
        case measure => simp [intOf]; omega
    · obtain rfl : k = l.length := by omega
      have HAl := Lib.hid (fun h2 => HAll.out (fun i hi => HA.out i hi hi) h2)
      clear HA HAll HX2 HL
      go_wp2
      clear cc0 cc1
      go_loopw [4] (fun i wr => ∃ k : Nat, k ≤ ls.length ∧ i = .int .i64 k ∧ Hid (Below w.heap.size w wr) ∧ Hid (CfBlk wr w.heap.size a l.length c b ls.length d pt rs) ∧ Hid (∀ j (_ : j < k) (hj : j < ls.length), ls[j].src.length ≤ 12 ∧ ls[j].tgt.length ≤ 12 ∧ ls[j].eqs.length ≤ 12)) (fun i _ => ls.length - (intOf i).toNat)
      case atStart => exact ⟨0, Nat.zero_le _, rfl, HB, HBk, Lib.hid fun j hj => absurd hj (Nat.not_lt_zero _)⟩
      case round =>
        clear HB HBk
        obtain ⟨k, hk2, rfl, HB, HBk, HA⟩ := hrel
        have cc1 : wr.cell? ⟨w.heap.size, 1, none⟩ = some (.slice b ls.length d) := cell_heap HBk.out
        by_cases hlt2 : k < ls.length
        · have hkl : (k : Int) < (ls.length : Int) := by omega
          obtain ⟨rb, ro, rfl, hrb, hr⟩ := HLs.out (by omega)
          obtain ⟨hr1, -, -, -⟩ := hr k hlt2
          have c0 : wr.cell? ⟨rb, ro + k * 3, none⟩ = some (.slice ls[k].sa ls[k].src.length ls[k].sc) := (HB.out.cell (p := ⟨rb, ro + k * 3, none⟩) hrb).trans (hr1 0 _ rfl)
          have c1 : wr.cell? ⟨rb, ro + k * 3 + 1, none⟩ = some (.slice ls[k].ta ls[k].tgt.length ls[k].tc) := (HB.out.cell (p := ⟨rb, ro + k * 3 + 1, none⟩) hrb).trans (hr1 1 _ rfl)
          have c2 : wr.cell? ⟨rb, ro + k * 3 + 2, none⟩ = some (.slice ls[k].ea ls[k].eqs.length ls[k].ec) := (HB.out.cell (p := ⟨rb, ro + k * 3 + 2, none⟩) hrb).trans (hr1 2 _ rfl)
          clear hr hr1
          have HN1 : Hid (¬ (ls[k].src.length ≤ 12 ∧ ls[k].tgt.length ≤ 12 ∧ ls[k].eqs.length ≤ 12) → ¬ P) := Lib.hid fun h hp => h (HX3.out hp k hlt2)
          have HA2 : Hid (ls[k].src.length ≤ 12 ∧ ls[k].tgt.length ≤ 12 ∧ ls[k].eqs.length ≤ 12 → ∀ j (_ : j < k + 1) (hj : j < ls.length), ls[j].src.length ≤ 12 ∧ ls[j].tgt.length ≤ 12 ∧ ls[j].eqs.length ≤ 12) := Lib.hid fun h0 j hj hl => by
            by_cases e : j = k
            · subst e; exact h0
            · exact HA.out j (by omega) hl
          generalize ls[k].sa = x1 at *
          generalize ls[k].sc = x3 at *
          generalize ls[k].ta = x5 at *
          generalize ls[k].tc = x7 at *
          generalize ls[k].ea = x8 at *
          generalize ls[k].ec = x9 at *
          generalize ls[k].src.length = y1 at *
          generalize ls[k].tgt.length = y2 at *
          generalize ls[k].eqs.length = y3 at *
          clear HA
          by_cases g1 : 12 < y1
          · have g1' : (12 : Int) < (y1 : Int) := by omega
            have HT := Lib.hid (HNo.out (HN1.out fun h => by omega))
            clear HN1 HA2 HX3 HAl
            go_wp2
            go_ret
            exact ⟨HT.out, HB.out⟩
          have g1' : ¬ (12 : Int) < (y1 : Int) := by omega
          by_cases g2 : 12 < y2
          · have g2' : (12 : Int) < (y2 : Int) := by omega
            have HT := Lib.hid (HNo.out (HN1.out fun h => by omega))
            clear HN1 HA2 HX3 HAl
            go_wp2
            go_ret
            exact ⟨HT.out, HB.out⟩
          have g2' : ¬ (12 : Int) < (y2 : Int) := by omega
          by_cases g3 : 12 < y3
          · have g3' : (12 : Int) < (y3 : Int) := by omega
            have HT := Lib.hid (HNo.out (HN1.out fun h => by omega))
            clear HN1 HA2 HX3 HAl
            go_wp2
            go_ret
            exact ⟨HT.out, HB.out⟩
          · have g3' : ¬ (12 : Int) < (y3 : Int) := by omega
            have HA3 := Lib.hid (HA2.out ⟨by omega, by omega, by omega⟩)
            clear HN1 HA2
            go_wp2
            go_roundw
            case rel => exact ⟨k + 1, by omega, by go_num, HB, HBk, HA3⟩
            case measure => simp [intOf]; omega
        · obtain rfl : k = ls.length := by omega
          have HT := Lib.hid (HYes.out (HAl.out fun i hi => HA.out i hi hi))
          clear HA HAl HX3
          go_wp2
          go_ret
          exact ⟨HT.out, HB.out⟩

end Go.Proofs.YtmanjegdgjeeiaaGreatDoor
namespace Go.Proofs.YtmanjegdgjeeiaaGreatDoor
open Go.RowKit Go.Maps

/-- What an alert says, wherever it lies. -/
def Rw.sh (r : Rw) : List Pr × Int × Int := (r.ps, r.st, r.en)
structure Gs where
  rt : Nat
  lb : List Pr
  al : List (List Pr × Int × Int)
def Gs.key (g : Gs) : List UInt8 := gKeyL g.rt g.lb
def Gm.sh (g : Gm) : Gs := ⟨g.rt, g.lb, g.al.map Rw.sh⟩
theorem Gm.sh_key (g : Gm) : g.sh.key = g.key := rfl
/-- One alert more, in the group of a key. -/
def putS (rt : Nat) (lb : List Pr) (x : List Pr × Int × Int) : List Gs → List Gs
  | [] => [⟨rt, lb, [x]⟩]
  | g :: G => if g.key = gKeyL rt lb then ⟨g.rt, g.lb, g.al ++ [x]⟩ :: G else g :: putS rt lb x G
theorem putS_miss (rt : Nat) (lb : List Pr) (x : List Pr × Int × Int) : ∀ G : List Gs, gKeyL rt lb ∉ G.map Gs.key → putS rt lb x G = G ++ [⟨rt, lb, [x]⟩]
  | [], _ => rfl
  | g :: G, h => by
    rw [List.map_cons, List.mem_cons, not_or] at h
    rw [putS, if_neg (fun e => h.1 e.symm), putS_miss rt lb x G h.2]
    rfl
theorem putS_hit (rt : Nat) (lb : List Pr) (x : List Pr × Int × Int) : ∀ (G : List Gs) (p : Nat) (hp : p < G.length), G[p].key = gKeyL rt lb → (∀ j (_ : j < p) (hj : j < G.length), G[j].key ≠ gKeyL rt lb) → putS rt lb x G = G.set p ⟨G[p].rt, G[p].lb, G[p].al ++ [x]⟩
  | g :: G, 0, _, h, _ => by
    have h' : g.key = gKeyL rt lb := h
    rw [putS, if_pos h']
    rfl
  | g :: G, p + 1, hp, h, hf => by
    have h0 : g.key ≠ gKeyL rt lb := hf 0 (by omega) (by simp)
    rw [putS, if_neg h0, putS_hit rt lb x G p (by simpa using hp) (by simpa using h) (fun j hj hl => hf (j + 1) (by omega) (by simpa using hl))]
    rfl
def bysAt (l : List Rt) (i : Nat) : List ByteArray := (l[i]?.map Rt.bys).getD []
theorem bysAt_eq {l : List Rt} {i : Nat} (hi : i < l.length) : bysAt l i = l[i].bys := by simp [bysAt, hi]
/-- Where alerts of labels go. -/
def GoesOk (l : List Rt) (W : List Pr → List Nat) : Prop := ∀ ps, ∃ tk, TkOk l ps tk ∧ W ps = walkL l tk
theorem goes_ex (l : List Rt) : ∃ W, GoesOk l W := ⟨fun ps => walkL l (Classical.choose (tk_ex l ps)), fun ps => ⟨_, Classical.choose_spec (tk_ex l ps), rfl⟩⟩
def stepS (l : List Rt) (x : List Pr × Int × Int) (G : List Gs) (i : Nat) : List Gs := putS i (pickL x.1 (bysAt l i)) x G
def oneS (l : List Rt) (W : List Pr → List Nat) (G : List Gs) (x : List Pr × Int × Int) : List Gs := (W x.1).foldl (stepS l x) G
def ofS (l : List Rt) (W : List Pr → List Nat) (X : List (List Pr × Int × Int)) : List Gs := X.foldl (oneS l W) []
theorem fold_take {α β : Type} (f : β → α → β) (z : β) (L : List α) (k : Nat) (hk : k < L.length) : (L.take (k + 1)).foldl f z = f ((L.take k).foldl f z) L[k] := by
  rw [List.take_succ_eq_append_getElem hk, List.foldl_append]
  rfl
theorem walk_lt {l : List Rt} {tk co : Nat → Bool} : ∀ (f a x : Nat), a < l.length → x ∈ walkP tk co (kidsP l) f a → x < l.length
  | 0, _, _, _, h => by cases h
  | f + 1, a, x, ha, h => by
    rcases (walk_mem h).2 with rfl | ⟨k, hk, hx⟩
    · exact ha
    · exact walk_lt f k x (kids_mem hk).1 hx
theorem GoesOk.lt {l : List Rt} {W : List Pr → List Nat} (hW : GoesOk l W) {ps : List Pr} {x : Nat} (h : x ∈ W ps) : x < l.length := by
  obtain ⟨tk, -, e⟩ := hW ps
  rw [e] at h
  unfold walkL at h
  split at h
  · cases h
  · exact walk_lt _ _ _ (by omega) h
theorem GoesOk.few {l : List Rt} {W : List Pr → List Nat} (hW : GoesOk l W) (h : l.length ≤ 20) (ps : List Pr) : (W ps).length ≤ 420 := by
  obtain ⟨tk, -, e⟩ := hW ps
  have h1 := walkL_few l tk
  have h2 : (l.length + 1) * l.length ≤ 21 * 20 := Nat.mul_le_mul (by omega) h
  rw [e]
  omega
theorem putS_len (rt : Nat) (lb : List Pr) (x : List Pr × Int × Int) : ∀ G : List Gs, (putS rt lb x G).length ≤ G.length + 1
  | [] => by simp [putS]
  | g :: G => by
    have := putS_len rt lb x G
    rw [putS]
    split
    · simp
    · simp; omega
theorem stepS_len (l : List Rt) (x : List Pr × Int × Int) : ∀ (W : List Nat) (G : List Gs), (W.foldl (stepS l x) G).length ≤ G.length + W.length
  | [], G => by simp
  | i :: W, G => by
    have h1 := stepS_len l x W (stepS l x G i)
    have h2 := putS_len i (pickL x.1 (bysAt l i)) x G
    rw [List.foldl_cons]
    unfold stepS at *
    simp only [List.length_cons]
    omega
theorem ofS_len {l : List Rt} {W : List Pr → List Nat} (hW : GoesOk l W) (h : l.length ≤ 20) : ∀ (X : List (List Pr × Int × Int)) (G : List Gs), (X.foldl (oneS l W) G).length ≤ G.length + X.length * 420
  | [], G => by simp
  | x :: X, G => by
    have h1 := ofS_len hW h X (oneS l W G x)
    have h2 := stepS_len l x (W x.1) G
    have h3 := hW.few h x.1
    rw [List.foldl_cons]
    simp only [List.length_cons]
    unfold oneS at *
    omega

/-- Beside a map's block, and what came behind, nothing was turned. -/
theorem far_trans {w1 w2 w3 : World} {bm : Nat} {row : Option Nat} (h : w1.grownBy w2 (some bm)) (k : w2.grownBy w3 row) (hr : ∀ x, row = some x → x = bm ∨ w1.heap.size ≤ x) : w1.grownBy w3 (some bm) :=
  ⟨k.os.trans h.os, k.tape.trans h.tape, k.output.trans h.output, Nat.le_trans h.size k.size, fun i hi hne => (k.block i (Nat.lt_of_lt_of_le hi h.size) (fun e => by
    rcases hr i e.symm with e2 | e2
    · exact hne (by rw [e2])
    · omega)).trans (h.block i hi hne)⟩
theorem below_trans {w0 w2 w3 : World} {B : Nat} {row : Option Nat} (h : Below B w0 w2) (k : w2.grownBy w3 row) (hB : B ≤ w2.heap.size) (hr : ∀ x, row = some x → B ≤ x) : Below B w0 w3 :=
  h.trans ⟨k.os, k.tape, k.output, k.size, fun i hi => k.block i (by omega) (fun e => by have := hr i e.symm; omega)⟩

end Go.Proofs.YtmanjegdgjeeiaaGreatDoor
namespace Go.Proofs.YtmanjegdgjeeiaaGreatDoor
open Go.RowKit Go.Maps

theorem zeroInt (w : World) : (zeroValue 3).run Tryz.prog w = .ok (.int .i64 0) w := by kernel_rfl
theorem MpAt.look_yes {w : World} {b : Nat} {ks : List (List UInt8)} (h : MpAt w b ks) {k : List UInt8} (p : Nat) (hp : p < ks.length) (hkp : ks[p] = k) (hk : k.length ≤ maxLen) :
    (Instr.lookup 63 (.map (some b)) (.string ⟨k.toArray⟩) true).run Tryz.prog w = .ok (.tuple #[.int .i64 (p : Int), .bool true]) w := by
  obtain ⟨D, ⟨es, clock, hb, F, hs, hD⟩, hM, hh, hat'⟩ := h
  subst hkp
  rcases Maps.fit_look true glawS Tryz.underlying63 (zeroInt w) hb F (gkeyOf hk) with ⟨-, -, hno⟩ | ⟨e0, y, -, -, hrun, hv, hat, -⟩
  · have h1 := (hh ks[p]).2 (List.getElem_mem _)
    rw [hD, has_false_of_atKey hno] at h1
    cases h1
  · have h1 := hat (.lit (.int .i64 0))
    rw [← hD, hat' p hp] at h1
    obtain ⟨c, hc1, hc2, -⟩ := plainElem_int_inv Tryz.underlying3 hv
    rw [hc2] at h1
    simp only [DataW.lit.injEq, Lit.int.injEq, true_and] at h1
    rw [hc1, ← h1] at hrun
    exact hrun
theorem MpAt.look_no {w : World} {b : Nat} {ks : List (List UInt8)} (h : MpAt w b ks) {k : List UInt8} (hno : k ∉ ks) (hk : k.length ≤ maxLen) :
    (Instr.lookup 63 (.map (some b)) (.string ⟨k.toArray⟩) true).run Tryz.prog w = .ok (.tuple #[.int .i64 0, .bool false]) w := by
  obtain ⟨D, ⟨es, clock, hb, F, hs, hD⟩, hM, hh, hat'⟩ := h
  rcases Maps.fit_look true glawS Tryz.underlying63 (zeroInt w) hb F (gkeyOf hk) with ⟨hrun, -, -⟩ | ⟨e0, y, -, -, hrun, hv, hat, -⟩
  · exact hrun
  · have h1 := Maps.has_true_of_atKey hat
    rw [← hD] at h1
    exact absurd ((hh k).1 h1) hno
theorem MpAt.store {w : World} {b : Nat} {ks : List (List UInt8)} (h : MpAt w b ks) {k : List UInt8} (hno : k ∉ ks) (hk : k.length ≤ maxLen) (hn : ks.length ≤ 1000000) :
    ∃ w', (Instr.mapUpdate 63 (.map (some b)) (.string ⟨k.toArray⟩) (.int .i64 (ks.length : Int))).run Tryz.prog w = .ok () w' ∧ MpAt w' b (ks ++ [k]) ∧ w.grownBy w' (some b) := by
  obtain ⟨D, hown, hM, hh, hat⟩ := h
  have hwf : (Lit.int .i64 (ks.length : Int)).wf = true := WalkArith.wf_i64 ⟨by omega, by omega⟩
  obtain ⟨w', hrun, h1, h2⟩ := World.ownsMap.update hown glawS Tryz.underlying63 (by unfold maxLen; omega) (gkeyOf hk) (plainElem_int (a := (ks.length : Int)) Tryz.underlying3 hwf)
  exact ⟨w', hrun, MpAt.put hM hh hat hno h1, h2⟩
theorem MpAt.first {w : World} {b : Nat} {ks : List (List UInt8)} (h : MpAt w b ks) {i j : Nat} (hi : i < ks.length) (hj : j < ks.length) (e : ks[i] = ks[j]) : i = j := by
  obtain ⟨D, hown, hM, hh, hat⟩ := h
  have h1 := hat i hi
  rw [e, hat j hj] at h1
  simp only [DataW.lit.injEq, Lit.int.injEq, true_and] at h1
  omega

theorem KdBlk.past {w w' : World} {x : Nat} {r : Rw} {B : Nat} {e : TypeId} {s n : Nat} {v : Value} {xs : List Value} (h : KdBlk w x r) (h' : w.ownsRow B e s v n xs) (hne : e ≠ 67) (hg : w.grownBy w' v.ownBlock) : KdBlk w' x r := by
  refine (hg.block x (ltA h) fun e1 => ?_).trans h
  rcases h'.2 with ⟨rfl, -⟩ | ⟨g', cap', cur', rfl, -, hg2, -⟩
  · cases e1
  · obtain rfl : x = g' := by simpa [Value.ownBlock] using e1
    unfold KdBlk at h
    rw [h] at hg2
    simp only [Option.some.injEq, Obj.cells.injEq] at hg2
    exact hne hg2.2.1.symm
theorem KdBlk.mapped {w w' : World} {x b : Nat} {r : Rw} (h : KdBlk w x r) (hm : ∃ es clock, w.heap[b]? = some (.map es clock)) (hg : w.grownBy w' (some b)) : KdBlk w' x r := by
  obtain ⟨es, clock, hm⟩ := hm
  refine (hg.block x (ltA h) fun e1 => ?_).trans h
  obtain rfl : x = b := by simpa using e1
  unfold KdBlk at h
  rw [hm] at h
  cases h
theorem row_mapped {w w' : World} {B b : Nat} {e : TypeId} {s n : Nat} {v : Value} {xs : List Value} (h : w.ownsRow B e s v n xs) (hm : ∃ es clock, w.heap[b]? = some (.map es clock)) (hg : w.grownBy w' (some b)) : w'.ownsRow B e s v n xs := by
  obtain ⟨es, clock, hm⟩ := hm
  refine h.kept hg ?_
  rcases h.2 with ⟨rfl, -⟩ | ⟨g, cap, cur, rfl, -, hg1, -⟩
  · exact .inl rfl
  · refine .inr fun e1 => ?_
    obtain rfl : g = b := by simpa [Value.ownBlock] using e1
    rw [hm] at hg1
    cases hg1

/-- How the memory stands while groups are filled: wc: as the call began; w2: as the alerts were laid; bm: the map's block. -/
structure Fill (wc w2 wr : World) (bm : Nat) (v : Value) (G : List Gm) : Prop where
  inv : GInv wr w2.heap.size v G
  mp : MpAt wr bm (G.map Gm.key)
  far : w2.grownBy wr (some bm)
  bel : Below wc.heap.size wc wr
theorem Fill.below {wc w2 wr w' : World} {bm : Nat} {v : Value} {G : List Gm} (h : Fill wc w2 wr bm v G) (hb : Below wr.heap.size wr w') : Fill wc w2 w' bm v G :=
  ⟨h.inv.below hb, h.mp.kept (gOf hb none) (by simp), far_trans h.far (gOf hb none) (fun x e => by cases e), h.bel.trans (hb.mono h.bel.size)⟩
theorem Fill.turn {wc w2 wr w' : World} {bm : Nat} {v v' : Value} {G G' : List Gm} {row : Option Nat} (h : Fill wc w2 wr bm v G) (hg : wr.grownBy w' row) (hr : ∀ x, row = some x → w2.heap.size ≤ x) (hbm : bm < w2.heap.size) (hc : wc.heap.size ≤ w2.heap.size) (hi : GInv w' w2.heap.size v' G') (hk : G'.map Gm.key = G.map Gm.key) : Fill wc w2 w' bm v' G' :=
  ⟨hi, by rw [hk]; exact h.mp.kept hg (fun e => by have := hr bm e.symm; omega), far_trans h.far hg (fun x e => .inr (hr x e)), below_trans h.bel hg h.bel.size (fun x e => Nat.le_trans hc (hr x e))⟩

end Go.Proofs.YtmanjegdgjeeiaaGreatDoor
namespace Go.Proofs.YtmanjegdgjeeiaaGreatDoor
open Go.RowKit Go.Maps

/-- Four cells of a group, in a block. -/
def C4 (w : World) (q : Nat) (g : Gm) : Prop := w.cell? ⟨q, 0, none⟩ = some (.int .i64 g.rt) ∧ w.cell? ⟨q, 1, none⟩ = some (.slice g.la g.lb.length g.lc) ∧ w.cell? ⟨q, 2, none⟩ = some (.string ⟨g.key.toArray⟩) ∧ w.cell? ⟨q, 3, none⟩ = some (.slice g.aa g.al.length g.ac)
theorem cellsGm_one {G : List Gm} : ∀ u ∈ cellsGm G, u.oneCell' = true := fun u h => by
  obtain ⟨r, -, h2⟩ := List.mem_flatMap.1 h
  simp only [encG, List.mem_cons, List.not_mem_nil, or_false] at h2
  rcases h2 with rfl | rfl | rfl | rfl <;> rfl
theorem run_append_grp (ty : TypeId) (w : World) (B : Nat) (v : Value) (G : List Gm) (hown : OwnG w B v G) (q : Nat) (g : Gm) (hc : C4 w q g) (hb : G.length + 1 ≤ 1000000) (hB : B ≤ w.heap.size) :
    ∃ v' w', (Builtin.append_ #[31, 31] ty #[v, .slice (some ⟨q, 0, none⟩) 1 1]).run Tryz.prog w = .ok v' w' ∧ OwnG w' B v' (G ++ [g]) ∧ w.grownBy w' v.ownBlock := by
  obtain ⟨i0, hi, hi0, hi1, hi2⟩ := info_parts infoGr
  obtain ⟨h0, h1, h2, h3⟩ := hc
  obtain ⟨v', w', hr, k1, k2, -, -⟩ := run_append_own_at (P := Tryz.prog) w B 31 ty 44 i0 _ 4 72 Tryz.underlying31 hi hi0 hi1 hi2 rfl (by decide) v _ _ hown ⟨q, 0, none⟩ 1 1 (cellsGm [g]) (by rw [cellsGm_len]; rfl) (fun j u hj => by
    rw [Go.WideShapes.add_plain, Nat.zero_add]
    have hl : j < 4 := by have := (List.getElem?_eq_some_iff.1 hj).1; rw [cellsGm_len] at this; simpa using this
    match j, hl with
    | 0, _ => rw [h0]; exact hj
    | 1, _ => rw [h1]; exact hj
    | 2, _ => rw [h2]; exact hj
    | 3, _ => rw [h3]; exact hj) cellsGm_one (by unfold maxLen; omega) (by omega) hB
  refine ⟨v', w', hr, ?_, k2⟩
  unfold OwnG
  rw [List.length_append, cellsGm_append]
  exact k1
theorem wpList_append_grp (w : World) {ops : Array Oper} {rest : List Oper} {o : Oper} {act : Act} {Q : Exit → Act → World → Prop} (hgd : o.guard = none) (s x : Operand)
    (ho : o.op = .call { callee := .builtin .append, args := #[s, x], argTypes := #[31, 31] }) (B : Nat) (v : Value) (G : List Gm) (hs : act.eval s = v) (hown : OwnG w B v G)
    (q : Nat) (g : Gm) (hx : act.eval x = .slice (some ⟨q, 0, none⟩) 1 1) (hc : C4 w q g) (hb : G.length + 1 ≤ 1000000) (hB : B ≤ w.heap.size)
    (h : ∀ v' w', OwnG w' B v' (G ++ [g]) → w.grownBy w' v.ownBlock → wpList Tryz.prog ops Q rest (act.put o.dst v') w') : wpList Tryz.prog ops Q (o :: rest) act w := by
  refine wpList_plain hgd fun K hK => ?_
  obtain ⟨v', w', hr, h1, h2⟩ := run_append_grp o.type w B v G hown q g hc hb hB
  unfold Oper.wp execOp
  simp only [ho, resolve, invoke, builtin, Sem.run_bind, Sem.run_pure, Result.andThen_ok, List.map_toArray, List.map_cons, List.map_nil, hs, hx, hr]
  exact hK _ _ (h v' w' h1 h2)
/-- append of one alert, with where the row then lies. -/
theorem step_append_al {w : World} {ops : Array Oper} {o : Oper} {act : Act} {K : Act → World → Prop} {Q : Exit → Act → World → Prop} {E : Prop} (hgd : o.guard = none) (s x : Operand)
    (ho : o.op = .call { callee := .builtin .append, args := #[s, x], argTypes := #[26, 26] }) (B : Nat) (a0 : Option Addr) (n0 c0 : Nat) (rs : List Rw) (hs : act.eval s = .slice a0 n0 c0) (hown : OwnA w B (.slice a0 n0 c0) rs)
    (q : Nat) (r : Rw) (hx : act.eval x = .slice (some ⟨q, 0, none⟩) 1 1) (hat : AlsAt w (some ⟨q, 0, none⟩) [r]) (hb : rs.length + 1 ≤ 1000000) (hB : B ≤ w.heap.size)
    (h : ∀ a' c' w', OwnA w' B (.slice a' (rs.length + 1) c') (rs ++ [r]) → w.grownBy w' (Value.slice a0 n0 c0).ownBlock → (∀ p, a' = some p → (∃ p2, a0 = some p2 ∧ p2.block = p.block) ∨ w.heap.size ≤ p.block) → K (act.put o.dst (.slice a' (rs.length + 1) c')) w') :
    if Region.wanted o (yielded ops act.tmps) = true then Oper.wp Tryz.prog o act w K Q else E := by
  have hw : Region.wanted o (yielded ops act.tmps) = true := by simp [Region.wanted, hgd]
  rw [if_pos hw]
  obtain ⟨i0, hi, hi0, hi1, hi2⟩ := info_parts infoAl
  obtain ⟨v', w', hr, h1, h2, -, h4⟩ := run_append_own_at (P := Tryz.prog) w B 26 o.type 42 i0 _ 3 40 Tryz.underlying26 hi hi0 hi1 hi2 rfl (by decide) _ _ _ hown ⟨q, 0, none⟩ 1 1 (cellsW [r]) (by rw [cellsW_len]; rfl) (hat.news _ rfl) cellsW_one (by unfold maxLen; omega) (by omega) hB
  have h5 : OwnA w' B v' (rs ++ [r]) := by
    unfold OwnA
    rw [List.length_append, cellsW_append]
    exact h1
  obtain ⟨a', c', hv, -⟩ := h5.form
  rw [List.length_append] at hv
  have hv2 : v' = .slice a' (rs.length + 1) c' := hv
  subst hv2
  unfold Oper.wp execOp
  simp only [ho, resolve, invoke, builtin, Sem.run_bind, Sem.run_pure, Result.andThen_ok, List.map_toArray, List.map_cons, List.map_nil, hs, hx, hr]
  refine h a' c' w' h5 h2 fun p e => ?_
  subst e
  rcases h4 with h4 | h4
  · left
    cases a0 with
    | none => cases h4
    | some p2 => exact ⟨p2, rfl, by simpa [Value.ownBlock] using h4.symm⟩
  · right
    have : p.block = w.heap.size := by simpa [Value.ownBlock] using h4
    omega
/-- What is held while a route's names are read. -/
def S11 (w : World) (B : Nat) (a : Option Addr) (n c : Nat) (b : Option Addr) (m d : Nat) (pt rs : Int) (rb p : Nat) (rz : Rt) (xb : Nat) (r0 : Rw) : Prop := CfBlk w B a n c b m d pt rs ∧ CellsAt w rb p (encR rz) ∧ KdBlk w xb r0
theorem S11.below {w w' : World} {B : Nat} {a : Option Addr} {n c : Nat} {b : Option Addr} {m d : Nat} {pt rs : Int} {rb p : Nat} {rz : Rt} {xb : Nat} {r0 : Rw} (h : S11 w B a n c b m d pt rs rb p rz xb r0) (hb : Below w.heap.size w w') : S11 w' B a n c b m d pt rs rb p rz xb r0 :=
  ⟨h.1.below hb, fun j v hj => (hb.cell (p := ⟨rb, p + j, none⟩) (World.block_lt_of_cell? w _ (h.2.1 j v hj))).trans (h.2.1 j v hj), h.2.2.below hb (ltA h.2.2)⟩
theorem CfBlk.x0 {w : World} {B : Nat} {a : Option Addr} {n c : Nat} {b : Option Addr} {m d : Nat} {pt rs : Int} (h : CfBlk w B a n c b m d pt rs) : w.cell? ⟨B, 0, none⟩ = some (.slice a n c) := cellA h
theorem row_onD {w : World} {B : Nat} {e : TypeId} {s n : Nat} {v : Value} {xs : List Value} (h : w.ownsRow B e s v n xs) : w.drew.ownsRow B e s v n xs := onB_row h (Below.refl w.heap.size w).drew (Nat.le_refl _)
theorem hd_drew (w : World) : Below w.heap.size w w.drew := (Below.refl w.heap.size w).drew
/-- How many alerts there are in groups. -/
def totS : List Gs → Nat
  | [] => 0
  | g :: G => g.al.length + totS G
theorem totS_put (rt : Nat) (lb : List Pr) (x : List Pr × Int × Int) : ∀ G : List Gs, totS (putS rt lb x G) = totS G + 1
  | [] => rfl
  | g :: G => by
    have := totS_put rt lb x G
    rw [putS]
    split
    · simp only [totS, List.length_append, List.length_cons, List.length_nil]; omega
    · simp only [totS, this]; omega
theorem totS_steps (l : List Rt) (x : List Pr × Int × Int) : ∀ (W : List Nat) (G : List Gs), totS (W.foldl (stepS l x) G) = totS G + W.length
  | [], G => rfl
  | i :: W, G => by
    rw [List.foldl_cons, totS_steps l x W]
    unfold stepS
    rw [totS_put]
    simp only [List.length_cons]
    omega
theorem totS_few {l : List Rt} {W : List Pr → List Nat} (hW : GoesOk l W) (h : l.length ≤ 20) : ∀ (X : List (List Pr × Int × Int)) (G : List Gs), totS (X.foldl (oneS l W) G) ≤ totS G + X.length * 420
  | [], G => by simp
  | x :: X, G => by
    have h1 := totS_few hW h X (oneS l W G x)
    have h2 := totS_steps l x (W x.1) G
    have h3 := hW.few h x.1
    rw [List.foldl_cons]
    simp only [List.length_cons]
    unfold oneS at *
    omega
theorem totS_mem : ∀ {G : List Gs} {g : Gs}, g ∈ G → g.al.length ≤ totS G
  | h :: G, g, hg => by
    rcases List.mem_cons.1 hg with rfl | hg
    · simp only [totS]; omega
    · have := totS_mem hg
      simp only [totS]
      omega
theorem OwnG.slot {w : World} {B gq n c : Nat} {G : List Gm} (h : OwnG w B (.slice (some ⟨gq, 0, none⟩) n c) G) (p : Nat) (hp : p < G.length) : gq < w.heap.size ∧ B ≤ gq ∧ w.cell? ⟨gq, p * 4 + 3, none⟩ = some (.slice G[p].aa G[p].al.length G[p].ac) ∧ w.frozen? ⟨gq, p * 4 + 3, none⟩ = false := by
  have hl := cellsGm_len G
  rcases h.2 with ⟨h0, -⟩ | ⟨g', cap, cur, hv, hg0, hg1, hcap, hmax, hcs, htk⟩
  · cases h0
  · have hc := World.ownsRow.cells h (g := gq) rfl (p * 4 + 3) _ (cellsGm_get G p hp).2.2.2
    rw [Go.WideShapes.add_plain, Nat.zero_add] at hc
    injection hv with hv1 hv2 hv3
    injection hv1 with hv1
    injection hv1 with hv1
    subst hv1
    exact ⟨ltA hg1, hg0, hc, by simp [World.frozen?, hg1]⟩
theorem OwnG.some {w : World} {B : Nat} {a : Option Addr} {n c : Nat} {G : List Gm} (h : OwnG w B (.slice a n c) G) (hG : 0 < G.length) : ∃ gq, a = some ⟨gq, 0, none⟩ ∧ n = G.length := by
  rcases h.2 with ⟨h0, e⟩ | ⟨g', cap, cur, hv, -⟩
  · omega
  · simp only [Value.slice.injEq] at hv
    exact ⟨g', hv.1, hv.2.1⟩
theorem sh_hit (I : List Gm) (z : Nat) (lb : List Pr) (p : Nat) (hp : p < I.length) (hk : I[p].key = gKeyL z lb) (hf : ∀ j (_ : j < p) (hj : j < I.length), I[j].key ≠ gKeyL z lb) (r : Rw) (a' : Option Addr) (c' : Nat) : (I.set p (I[p].put (I[p].al ++ [r]) a' c')).map Gm.sh = putS z lb r.sh (I.map Gm.sh) := by
  rw [putS_hit z lb r.sh (I.map Gm.sh) p (by simpa using hp) (by rw [List.getElem_map]; exact hk) (fun j hj hl => by rw [List.getElem_map]; exact hf j hj (by simpa using hl)), List.map_set]
  simp [Gm.put, Gm.sh]
theorem sh_miss (I : List Gm) (z : Nat) (lb : List Pr) (g0 : Gm) (h1 : g0.rt = z) (h2 : g0.lb = lb) (h3 : g0.al = []) (hno : gKeyL z lb ∉ I.map Gm.key) (hp : I.length < (I ++ [g0]).length) (r : Rw) (a' : Option Addr) (c' : Nat) : ((I ++ [g0]).set I.length ((I ++ [g0])[I.length].put ((I ++ [g0])[I.length].al ++ [r]) a' c')).map Gm.sh = putS z lb r.sh (I.map Gm.sh) := by
  have e : (I ++ [g0])[I.length] = g0 := by rw [List.getElem_append_right (Nat.le_refl _)]; simp
  rw [putS_miss z lb r.sh (I.map Gm.sh) (by rw [List.map_map]; exact hno), e, List.set_append_right _ _ (Nat.le_refl _)]
  simp [Gm.put, Gm.sh, h1, h2, h3]
theorem Fill.filled {wc w2 w7 w8 : World} {bm gq n c p : Nat} {Q : List Gm} {x : Rw} {a8 : Option Addr} {c8 : Nat} (h : Fill wc w2 w7 bm (.slice (some ⟨gq, 0, none⟩) n c) Q) (hbm : bm < w2.heap.size) (hc : wc.heap.size ≤ w2.heap.size) (hp : p < Q.length) (hx : OwnP w7 w2.heap.size (.slice x.ad x.ps.length x.cp) x.ps)
    (own8 : OwnA w8 w2.heap.size (.slice a8 (Q[p].al.length + 1) c8) (Q[p].al ++ [x])) (g8 : w7.grownBy w8 (Value.slice Q[p].aa Q[p].al.length Q[p].ac).ownBlock) (hn8 : ∀ q, a8 = some q → (∃ q2, Q[p].aa = some q2 ∧ q2.block = q.block) ∨ w7.heap.size ≤ q.block) :
    Fill wc w2 (w8.setCell ⟨gq, p * 4 + 3, none⟩ (.slice a8 (Q[p].al.length + 1) c8)) bm (.slice (some ⟨gq, 0, none⟩) n c) (Q.set p (Q[p].put (Q[p].al ++ [x]) a8 c8)) := by
  have hals := h.inv.als Q[p] (List.getElem_mem hp)
  have own8g : OwnG w8 w2.heap.size (.slice (some ⟨gq, 0, none⟩) n c) Q := past_row h.inv.own hals (by decide) g8
  obtain ⟨-, hgB, -, -⟩ := own8g.slot p hp
  have hnQ : n = Q.length := by
    obtain ⟨-, -, e⟩ := own8g.some (by omega)
    exact e
  have gs : w8.grownBy (w8.setCell ⟨gq, p * 4 + 3, none⟩ (.slice a8 (Q[p].al.length + 1) c8)) (some gq) := by
    subst hnQ
    exact (World.ownsRow.stored own8g (p * 4 + 3) _).2
  have r1 : ∀ y, (Value.slice Q[p].aa Q[p].al.length Q[p].ac).ownBlock = some y → w2.heap.size ≤ y := fun y e => (World.ownsRow.lt hals y e).1
  have r2 : ∀ y, some gq = some y → w2.heap.size ≤ y := fun y e => by have := Option.some.inj e; omega
  have ek : (Q.set p (Q[p].put (Q[p].al ++ [x]) a8 c8)).map Gm.key = Q.map Gm.key := by
    rw [List.map_set]
    have e2 : (Q[p].put (Q[p].al ++ [x]) a8 c8).key = (Q.map Gm.key)[p]'(by simpa using hp) := by rw [List.getElem_map]; rfl
    rw [e2, List.set_getElem_self]
  have f1 := far_trans h.far g8 (fun y e => .inr (r1 y e))
  have l1 := below_trans h.bel g8 h.bel.size (fun y e => Nat.le_trans hc (r1 y e))
  exact ⟨h.inv.fill hp hx own8 g8 hn8, by rw [ek]; exact (h.mp.kept g8 (fun e => by have := r1 bm e.symm; omega)).kept gs (fun e => by have := r2 bm e.symm; omega), far_trans f1 gs (fun y e => .inr (r2 y e)), below_trans l1 gs l1.size (fun y e => Nat.le_trans hc (r2 y e))⟩
theorem flatQs (i : Nat) (hi : i ≤ 1000) (ps : List Pr) (h : ps.length ≤ 10) (h2 : ∀ p ∈ ps, p.1.size ≤ 100 ∧ p.2.size ≤ 100) : (partsQ i ps).flatten.length ≤ 2500 ∧ (gKeyL i ps).length ≤ 2600 := by
  have h3 := flatK_le ps h2
  have h4 := itoa_len20 (i : Int) (by omega) (by omega)
  have h5 : (partsQ i ps).flatten.length = (putInt i).length + (partsK ps).flatten.length := by simp [partsQ]
  have h6 : (putInt (i : Int)).length ≤ 22 := by simp [putInt]; omega
  have h7 : (gKeyL i ps).length = (partsQ i ps).flatten.length + 2 := by simp [gKeyL, putList]
  omega
theorem pick_light {r : Rw} (h : RwLight r) (ns : List ByteArray) : (pickL r.ps ns).length ≤ 10 ∧ ∀ p ∈ pickL r.ps ns, p.1.size ≤ 100 ∧ p.2.size ≤ 100 :=
  ⟨Nat.le_trans (List.length_filter_le _ _) h.1, fun p hp => h.2 p (List.mem_filter.1 hp).1⟩

end Go.Proofs.YtmanjegdgjeeiaaGreatDoor
