/-
  Bytes that are read: the first of them as a text, how many there are, all of them as a text. The document's answer for P1.2, walked: stop, until, Byte and More of the reference. The number whose digits these are, as the reference tells it.
-/
import Derived.Test.YtcngifkoopcmeaaGreatDoorK19
import Derived.Shelf.Bytes.SlSmallAll
import Derived.Lib.SlBytesConst
import Derived.Test.YtcngifkoopcmeaaGreatDoorK36
import Derived.Test.YtcngifkoopcmeaaGreatDoorK18
namespace Go.Proofs.YtcngifkoopcmeaaGreatDoor
open Go.RowKit

theorem src_take {w : World} {a : Option Addr} {n c : Nat} {l : List UInt8} (h : SrcAt w (.slice a n c) l) (k : Nat) (hk : k ≤ l.length) : (convert 111 9 (.slice a k c)).run Tryz.prog w = .ok (.string ⟨(l.take k).toArray⟩) w := by
  rcases h with ⟨e, rfl⟩ | ⟨q, c', e, hc⟩
  · simp only [Value.slice.injEq] at e
    obtain ⟨rfl, rfl, rfl⟩ := e
    obtain rfl : k = 0 := by simpa using hk
    exact run_convert_bytes_zero w 111 5 Tryz.underlying111 Tryz.underlying5 none 0 9 Tryz.underlying9
  · simp only [Value.slice.injEq] at e
    obtain ⟨rfl, rfl, rfl⟩ := e
    have hl : (l.take k).length = k := by simp; omega
    have := run_convert_bytes_back (P := Tryz.prog) w 111 9 5 q c (l.take k) Tryz.underlying111 Tryz.underlying5 Tryz.underlying9 (fun j hj => by
      rw [List.length_take] at hj
      rw [List.getElem_take]
      exact hc j (by omega))
    rw [hl] at this
    exact this

theorem src_len {w : World} {a : Option Addr} {n c : Nat} {l : List UInt8} (h : SrcAt w (.slice a n c) l) : n = l.length := by
  rcases h with ⟨e, rfl⟩ | ⟨q, c', e, hc⟩
  · simp only [Value.slice.injEq] at e; exact e.2.1
  · simp only [Value.slice.injEq] at e; exact e.2.1

theorem src_string {w : World} {v : Value} {l : List UInt8} (h : SrcAt w v l) : (convert 111 9 v).run Tryz.prog w = .ok (.string ⟨l.toArray⟩) w := by
  rcases h with ⟨rfl, rfl⟩ | ⟨q, c, rfl, hc⟩
  · exact run_convert_bytes_zero w 111 5 Tryz.underlying111 Tryz.underlying5 none 0 9 Tryz.underlying9
  · exact run_convert_bytes_back (P := Tryz.prog) w 111 9 5 q c l Tryz.underlying111 Tryz.underlying5 Tryz.underlying9 hc

end Go.Proofs.YtcngifkoopcmeaaGreatDoor
namespace Go.Proofs.YtcngifkoopcmeaaGreatDoor
open Go.RowKit

set_option maxHeartbeats 400000 in
theorem stop_any (e : Int) (w : World) :
    Calls Tryz.prog 125 #[.int .i64 e] w fun r w' => r = .returned (.agg #[.slice none 0 0, .int .i64 e]) ∧ Below w.heap.size w w' := by
  go_enter Tryz.func125, Tryz.ntmps125
  go_wp2
  exact bodyPost_ret (v := .agg #[.slice none 0 0, .int .i64 e]) (by simp [results, Tryz.results125, go_sem]) rfl ⟨rfl, (Below.refl _ _).alloc (Nat.le_refl _) _⟩

/-- What until tells: the row and the error. -/
def untilOf (l : List UInt8) (ch : UInt8) (m : Nat) : List UInt8 × Int :=
  if Lib.indexByte (l.take (m + 1)) ch = -1 then ([], if m < l.length then 4 else 3) else (l.take (Lib.indexByte (l.take (m + 1)) ch).toNat, 0)

theorem index_at {l : List UInt8} {ch : UInt8} {m k : Nat} (hk : k < l.length) (hm : k ≤ m) (hb : ∀ j (hj : j < l.length), j < k → l[j] ≠ ch) (he : l[k] = ch) : Lib.indexByte (l.take (m + 1)) ch = k := by
  have e : l = l.take k ++ ch :: l.drop (k + 1) := by
    rw [← he, ← List.drop_eq_getElem_cons hk, List.take_append_drop]
  rw [e]
  have hl : (l.take k).length = k := by simp; omega
  have := index_behind (l.take k) (l.drop (k + 1)) ch m (fun x hx => by
    obtain ⟨j, hj, rfl⟩ := List.getElem_of_mem hx
    rw [List.length_take] at hj
    rw [List.getElem_take]
    exact hb j (by omega) (by omega)) (by omega)
  rw [this, hl]

theorem index_not {l : List UInt8} {ch : UInt8} {m : Nat} (hb : ∀ j (hj : j < l.length), j ≤ m → l[j] ≠ ch) : Lib.indexByte (l.take (m + 1)) ch = -1 := by
  have : ∀ (d : List UInt8), (∀ x ∈ d, x ≠ ch) → Lib.indexByte d ch = -1 := by
    intro d
    induction d with
    | nil => intro _; rfl
    | cons x d ih =>
      intro h
      have ih := ih (fun y hy => h y (List.mem_cons_of_mem _ hy))
      unfold Lib.indexByte
      have hx : (x == ch) = false := by simpa using h x (List.mem_cons_self ..)
      rw [hx, ih]
      rfl
  refine this _ (fun x hx => ?_)
  obtain ⟨j, hj, rfl⟩ := List.getElem_of_mem hx
  rw [List.length_take] at hj
  rw [List.getElem_take]
  exact hb j (by omega) (by omega)

set_option maxHeartbeats 1000000 in
set_option maxRecDepth 100000 in
theorem until_any (a : Option Addr) (c : Nat) (l : List UInt8) (ch : UInt8) (m : Nat) (w : World) (h : SrcAt w (.slice a l.length c) l) (hc : l.length ≤ c) (hlb : l.length ≤ 140737488355328) (_hm : m ≤ 100) :
    Calls Tryz.prog 126 #[.slice a l.length c, .int .u8 ch.toNat, .int .i64 m] w fun r w' => r = .returned (.tuple #[.string ⟨(untilOf l ch m).1.toArray⟩, .int .i64 (untilOf l ch m).2]) ∧ w' = w := by
  go_enter Tryz.func126, Tryz.ntmps126
  go_wp2
  go_loop [8] (fun i => ∃ k : Nat, k ≤ l.length ∧ k ≤ m + 1 ∧ i = .int .i64 k ∧ Hid (∀ j (hj : j < l.length), j < k → l[j] ≠ ch)) (fun i => l.length - (intOf i).toNat)
  case atStart => exact ⟨0, Nat.zero_le _, Nat.zero_le _, rfl, fun j _ h => absurd h (Nat.not_lt_zero _)⟩
  case round =>
    obtain ⟨k, hk, hkm, rfl, H⟩ := hrel
    by_cases hlt : k < l.length ∧ k ≤ m
    · obtain ⟨hlt, hle⟩ := hlt
      rcases h with ⟨e, rfl⟩ | ⟨q, c', e, hcell⟩
      · exact absurd hlt (Nat.not_lt_zero _)
      · simp only [Value.slice.injEq] at e
        obtain ⟨rfl, -, rfl⟩ := e
        have hck := hcell k hlt
        obtain ⟨b, o, s⟩ := q
        obtain rfl : s = none := by simpa [Addr.add] using World.cell?_spot (hcell 0 (by omega))
        rw [Go.WideShapes.add_plain] at hck
        by_cases he : l[k] = ch
        · have hidx := index_at hlt hle H.out he
          have hu : untilOf l ch m = (l.take k, 0) := by unfold untilOf; rw [hidx, if_neg (by omega), Int.toNat_natCast]
          have hcv := src_take (w := w) (a := some ⟨b, o, none⟩) (n := l.length) (c := c) (l := l) (.inr ⟨_, _, rfl, hcell⟩) k (by omega)
          have hsl := fun (W : World) => slice_to (some ⟨b, o, none⟩) l.length c k W (by omega)
          have HU := Lib.hid hu
          have heq : ((l[k].toNat : Int) == (ch.toNat : Int)) = true := by rw [he]; simp
          generalize l[k] = x at *
          clear hidx hcell he hu
          go_wp2
          go_ret2
          exact ⟨by rw [HU.out]; rfl, rfl⟩
        · have heq : ((l[k].toNat : Int) == (ch.toNat : Int)) = false := by
            rw [beq_eq_false_iff_ne]
            intro e
            exact he (UInt8.toNat_inj.1 (by omega))
          have HN : Hid (∀ j (hj : j < l.length), j < k + 1 → l[j] ≠ ch) := fun j hj h1 => by
            rcases Nat.lt_or_ge j k with h2 | h2
            · exact H.out j hj h2
            · obtain rfl : j = k := by omega
              exact he
          generalize l[k] = x at *
          clear hcell he
          go_wp2
          go_round
          case rel => exact ⟨k + 1, by omega, by omega, by go_num, HN⟩
          case measure => simp [intOf]; omega
    · have hnone : Lib.indexByte (l.take (m + 1)) ch = -1 := index_not (fun j hj hjm => H.out j hj (by omega))
      have hu : untilOf l ch m = ([], if m < l.length then 4 else 3) := by unfold untilOf; rw [if_pos hnone]
      have HU := Lib.hid hu
      clear hnone hu
      by_cases hkl : k < l.length
      · have hkm2 : ¬ (k : Int) ≤ (m : Int) := by omega
        have hml : m < l.length := by omega
        go_wp2
        go_ret2
        exact ⟨by rw [HU.out, if_pos hml]; rfl, rfl⟩
      · by_cases hml : m < l.length
        · go_wp2
          go_ret2
          exact ⟨by rw [HU.out, if_pos hml]; rfl, rfl⟩
        · go_wp2
          go_ret2
          exact ⟨by rw [HU.out, if_neg hml]; rfl, rfl⟩

/-- What is left behind k bytes. -/
theorem SrcAt.rest {w : World} {a : Option Addr} {c : Nat} {l : List UInt8} (h : SrcAt w (.slice a l.length c) l) (hc : l.length ≤ c) (k : Nat) (hk : k ≤ l.length) :
    SrcAt w (.slice (if c = k then a else a.map (·.add (k * 1))) (l.length - k) (c - k)) (l.drop k) := by
  have hl : (l.drop k).length = l.length - k := by simp
  rcases h with ⟨e, rfl⟩ | ⟨q, c', e, hcell⟩
  · simp only [Value.slice.injEq] at e
    obtain ⟨rfl, -, rfl⟩ := e
    obtain rfl : k = 0 := by simpa using hk
    exact .inl ⟨by simp, by simp⟩
  · simp only [Value.slice.injEq] at e
    obtain ⟨rfl, -, rfl⟩ := e
    by_cases hck : c = k
    · subst hck
      refine .inr ⟨q, 0, by rw [if_pos rfl, hl]; simp, fun i hi => by omega⟩
    · refine .inr ⟨q.add (k * 1), c - k, by rw [if_neg hck, hl]; rfl, fun i hi => ?_⟩
      rw [hl] at hi
      obtain ⟨b, o, s⟩ := q
      have h0 := hcell 0 (by omega)
      obtain rfl : s = none := by simpa [Addr.add] using World.cell?_spot h0
      rw [Go.WideShapes.add_plain, Go.WideShapes.add_plain, List.getElem_drop]
      have := hcell (k + i) (by omega)
      rw [Go.WideShapes.add_plain] at this
      rw [show o + k * 1 + i = o + (k + i) by omega]
      exact this

theorem bcell {W w1 : World} (hb : Below W.heap.size W w1) : (∀ b o, b < W.heap.size → w1.cell? ⟨b, o, none⟩ = W.cell? ⟨b, o, none⟩) ∧ (∀ b o, b < W.heap.size → w1.frozen? ⟨b, o, none⟩ = W.frozen? ⟨b, o, none⟩) :=
  ⟨fun b o h => hb.cell (p := ⟨b, o, none⟩) h, fun b o h => hb.frozen (p := ⟨b, o, none⟩) h⟩

theorem refByte_err (a : Option Addr) (n c : Nat) (e ch : Int) (w : World) (he : (e != 0) = true) :
    Calls Tryz.prog 76 #[.agg #[.slice a n c, .int .i64 e], .int .u8 ch] w fun r w' => r = .returned (.agg #[.slice a n c, .int .i64 e]) ∧ Below w.heap.size w w' := by
  go_enter Tryz.func76, Tryz.ntmps76
  go_wp2
  exact bodyPost_ret (v := .agg #[.slice a n c, .int .i64 e]) (by simp [results, Tryz.results76, go_sem]) rfl ⟨rfl, ((Below.refl _ _).alloc (Nat.le_refl _) _).alloc (by simp) _⟩

theorem below_two {w w1 : World} (o1 o2 : Obj) (hb : Below (w.heap.size + 1 + 1) ((w.alloc o1).alloc o2) w1) (v : Value) (i : Nat) :
    Below w.heap.size w (w1.setCell ⟨w.heap.size + 1, i, none⟩ v) :=
  ((((Below.refl w.heap.size w).alloc (Nat.le_refl _) o1).alloc (by simp) o2).trans (hb.mono (by omega))).setCell (by simp) v

set_option maxHeartbeats 1000000 in
theorem refByte_cut (a : Option Addr) (c : Nat) (ch : Int) (w : World) :
    Calls Tryz.prog 76 #[.agg #[.slice a 0 c, .int .i64 0], .int .u8 ch] w fun r w' => r = .returned (.agg #[.slice none 0 0, .int .i64 3]) ∧ Below w.heap.size w w' := by
  go_enter Tryz.func76, Tryz.ntmps76
  go_wp2_with (go_at_call 125; refine (stop_any 3 _).mono ?_; rintro r w1 ⟨rfl, hb1⟩; refine Hid.out ?_)
  refine Lib.hid ?_
  have hb := hb1
  simp only [World.size_alloc] at hb
  obtain ⟨hcl, hfz⟩ := bcell hb1
  have hsz := hb1.size
  simp only [World.size_alloc] at hsz hcl hfz
  clear hb1
  go_wp2
  have hB : Below w.heap.size w w1 := ((((Below.refl w.heap.size w).alloc (Nat.le_refl _) _).alloc (by simp) _).trans (hb.mono (by omega)))
  exact bodyPost_ret (v := .agg #[.slice none 0 0, .int .i64 3]) (by simp [results, Tryz.results76, go_sem, hcl]) rfl ⟨rfl, (hB.setCell (by simp) _).setCell (by simp) _⟩

set_option maxHeartbeats 1000000 in
theorem refByte_other (b o n c : Nat) (x ch : Int) (w : World) (hn : 1 ≤ n) (hx : w.cell? ⟨b, o, none⟩ = some (.int .u8 x)) (hne : (x != ch) = true) :
    Calls Tryz.prog 76 #[.agg #[.slice (some ⟨b, o, none⟩) n c, .int .i64 0], .int .u8 ch] w fun r w' => r = .returned (.agg #[.slice none 0 0, .int .i64 4]) ∧ Below w.heap.size w w' := by
  have hbl : b < w.heap.size := World.block_lt_of_cell? w ⟨b, o, none⟩ hx
  have hx1 : ∀ o1 o2, ((w.alloc o1).alloc o2).cell? ⟨b, o, none⟩ = some (.int .u8 x) := fun o1 o2 => by
    rw [(((Below.refl w.heap.size w).alloc (Nat.le_refl _) o1).alloc (by simp) o2).cell (p := ⟨b, o, none⟩) hbl]; exact hx
  have hnz : ((n : Int) == 0) = false := by rw [beq_eq_false_iff_ne]; omega
  go_enter Tryz.func76, Tryz.ntmps76
  go_wp2_with (go_at_call 125; refine (stop_any 4 _).mono ?_; rintro r w1 ⟨rfl, hb1⟩; refine Hid.out ?_)
  refine Lib.hid ?_
  have hb := hb1
  simp only [World.size_alloc] at hb
  obtain ⟨hcl, hfz⟩ := bcell hb1
  have hsz := hb1.size
  simp only [World.size_alloc] at hsz hcl hfz
  clear hb1
  go_wp2
  have hB : Below w.heap.size w w1 := ((((Below.refl w.heap.size w).alloc (Nat.le_refl _) _).alloc (by simp) _).trans (hb.mono (by omega)))
  exact bodyPost_ret (v := .agg #[.slice none 0 0, .int .i64 4]) (by simp [results, Tryz.results76, go_sem, hcl]) rfl ⟨rfl, (hB.setCell (by simp) _).setCell (by simp) _⟩

set_option maxHeartbeats 1000000 in
theorem refByte_ok (b o n c : Nat) (x ch : Int) (w : World) (hn : 1 ≤ n) (a' : Option Addr) (hs : ∀ W, (Instr.slice 111 (.slice (some ⟨b, o, none⟩) n c) (some (.int .i64 1)) none none).run Tryz.prog W = .ok (.slice a' (n - 1) (c - 1)) W) (hx : w.cell? ⟨b, o, none⟩ = some (.int .u8 x)) (hne : (x != ch) = false) :
    Calls Tryz.prog 76 #[.agg #[.slice (some ⟨b, o, none⟩) n c, .int .i64 0], .int .u8 ch] w fun r w' => r = .returned (.agg #[.slice a' (n - 1) (c - 1), .int .i64 0]) ∧ Below w.heap.size w w' := by
  have hbl : b < w.heap.size := World.block_lt_of_cell? w ⟨b, o, none⟩ hx
  have hx1 : ∀ o1 o2, ((w.alloc o1).alloc o2).cell? ⟨b, o, none⟩ = some (.int .u8 x) := fun o1 o2 => by
    rw [(((Below.refl w.heap.size w).alloc (Nat.le_refl _) o1).alloc (by simp) o2).cell (p := ⟨b, o, none⟩) hbl]; exact hx
  have hnz : ((n : Int) == 0) = false := by rw [beq_eq_false_iff_ne]; omega
  go_enter Tryz.func76, Tryz.ntmps76
  go_wp2
  exact bodyPost_ret (v := .agg #[.slice a' (n - 1) (c - 1), .int .i64 0]) (by simp [results, Tryz.results76, go_sem]) rfl ⟨rfl, ((Below.refl _ _).alloc (Nat.le_refl _) _).alloc (by simp) _⟩

set_option maxHeartbeats 1000000 in
theorem refMore_any (a : Option Addr) (c : Nat) (l : List UInt8) (e : Int) (w : World) (h : SrcAt w (.slice a l.length c) l) (he : e ≠ 0 → l = []) :
    Calls Tryz.prog 77 #[.agg #[.slice a l.length c, .int .i64 e]] w fun r w' => r = .returned (.bool (moreB l)) ∧ Below w.heap.size w w' := by
  by_cases he0 : e = 0
  · subst he0
    cases l with
    | nil =>
      simp only [List.length_nil]
      go_enter Tryz.func77, Tryz.ntmps77
      go_wp2
      go_ret
      exact ⟨rfl, (Below.refl _ _).alloc (Nat.le_refl _) _⟩
    | cons x l =>
      rcases h with ⟨e, h0⟩ | ⟨q, c', e, hcell⟩
      · cases h0
      · simp only [Value.slice.injEq] at e
        obtain ⟨rfl, -, rfl⟩ := e
        have h0 := hcell 0 (by simp)
        obtain ⟨b, o, s⟩ := q
        obtain rfl : s = none := by simpa [Addr.add] using World.cell?_spot h0
        rw [Go.WideShapes.add_plain] at h0
        simp only [Nat.add_zero, List.getElem_cons_zero] at h0
        have hbl : b < w.heap.size := World.block_lt_of_cell? w ⟨b, o, none⟩ h0
        have hx1 : ∀ o1, (w.alloc o1).cell? ⟨b, o, none⟩ = some (.int .u8 (x.toNat : Int)) := fun o1 => by
          rw [((Below.refl w.heap.size w).alloc (Nat.le_refl _) o1).cell (p := ⟨b, o, none⟩) hbl]; exact h0
        simp only [List.length_cons]
        clear hcell
        go_enter Tryz.func77, Tryz.ntmps77
        go_wp2
        go_ret
        exact ⟨rfl, (Below.refl _ _).alloc (Nat.le_refl _) _⟩
  · obtain rfl := he he0
    have heb : (e == 0) = false := by simpa using he0
    clear he he0
    simp only [List.length_nil]
    go_enter Tryz.func77, Tryz.ntmps77
    go_wp2
    go_ret
    exact ⟨rfl, (Below.refl _ _).alloc (Nat.le_refl _) _⟩

end Go.Proofs.YtcngifkoopcmeaaGreatDoor
namespace Go.Proofs.YtcngifkoopcmeaaGreatDoor
open Go.RowKit

/-- What digits stand for. -/
def valD (d : List UInt8) : Nat := d.foldl (fun a c => 10 * a + (c.toNat - 48)) 0
def AllD (d : List UInt8) : Prop := ∀ c ∈ d, 48 ≤ c.toNat ∧ c.toNat ≤ 57
theorem valD_snoc (d : List UInt8) (c : UInt8) : valD (d ++ [c]) = 10 * valD d + (c.toNat - 48) := by simp [valD]
theorem valD_take {d : List UInt8} {k : Nat} (hk : k < d.length) : valD (d.take (k + 1)) = 10 * valD (d.take k) + (d[k].toNat - 48) := by
  rw [List.take_succ_eq_append_getElem hk, valD_snoc]
theorem allD_take {d : List UInt8} {k : Nat} (hk : k < d.length) (h : AllD (d.take k)) (hc : 48 ≤ d[k].toNat ∧ d[k].toNat ≤ 57) : AllD (d.take (k + 1)) := by
  rw [List.take_succ_eq_append_getElem hk]
  intro c hm
  rcases List.mem_append.1 hm with hm | hm
  · exact h c hm
  · simp only [List.mem_singleton] at hm
    subst hm
    exact hc
theorem valD_lt {d : List UInt8} (h : AllD d) : ∀ k, k ≤ d.length → valD (d.take k) < 10 ^ k
  | 0, _ => by simp [valD]
  | k + 1, hk => by
    have ih := valD_lt h k (by omega)
    have hc := h d[k] (List.getElem_mem _)
    rw [valD_take (by omega), Nat.pow_succ]
    omega
theorem valD_bound {d : List UInt8} {k : Nat} (h : AllD (d.take k)) (hk : k ≤ d.length) (h18 : k ≤ 18) : valD (d.take k) ≤ 999999999999999999 := by
  have h1 := valD_lt h k (by simp; omega)
  rw [List.take_take, Nat.min_self] at h1
  have h2 : 10 ^ k ≤ 10 ^ 18 := Nat.pow_le_pow_right (by omega) h18
  have h3 : 10 ^ 18 = 1000000000000000000 := by decide
  omega
theorem valD_bound19 {d : List UInt8} {k : Nat} (h : AllD (d.take k)) (hk : k ≤ d.length) (h19 : k ≤ 19) : valD (d.take k) ≤ 9999999999999999999 := by
  have h1 := valD_lt h k (by simp; omega)
  rw [List.take_take, Nat.min_self] at h1
  have h2 : 10 ^ k ≤ 10 ^ 19 := Nat.pow_le_pow_right (by omega) h19
  have h3 : 10 ^ 19 = 10000000000000000000 := by decide
  omega
theorem valD_dec (u : Nat) : valD (Lib.decDigits u) = u := by
  induction u using Nat.strongRecOn with
  | _ u ih =>
    rw [Lib.decDigits]
    split
    · rename_i h
      simp only [valD, List.foldl_cons, List.foldl_nil]
      rw [digit_toNat h]
      omega
    · rename_i h
      rw [valD_snoc, ih (u / 10) (by omega), digit_toNat (by omega)]
      omega

theorem numOf_range {d : List UInt8} {n : Int} (h : numOf d = some n) : -9223372036854775808 ≤ n ∧ n ≤ 9223372036854775807 := by
  obtain ⟨hp, -⟩ := numOf_some h
  have hb := Lib.parseIntB_bounds (B := 64) hp
  have e : ((2 ^ (64 - 1) : Nat) : Int) = 9223372036854775808 := by decide
  rw [e] at hb
  omega

theorem itoa_neg {n : Int} (h : n < 0) : Lib.itoa n = 45 :: Lib.decDigits n.natAbs := by unfold Lib.itoa; rw [if_pos h]
theorem itoa_pos {n : Int} (h : ¬ n < 0) : Lib.itoa n = Lib.decDigits n.toNat := by unfold Lib.itoa; rw [if_neg h]

/-- The number below 64 bits with a sign. -/
theorem wrap_val {v : Nat} (h : v ≤ 9999999999999999999) : ∃ x : Int, IntKind.i64.wrap (v : Int) = x ∧ -9223372036854775808 ≤ x ∧ x ≤ 9223372036854775807 ∧ (v ≤ 9223372036854775807 → x = v) ∧ (v = 9223372036854775808 → x = -9223372036854775808) := by
  refine ⟨_, rfl, ?_⟩
  rw [IntKind.wrap_i64]
  omega
theorem wrap_neg {x : Int} (h0 : -9223372036854775808 ≤ x) (h1 : x ≤ 9223372036854775807) : ∃ y : Int, IntKind.i64.wrap (-x) = y ∧ -9223372036854775808 ≤ y ∧ y ≤ 9223372036854775807 ∧ (x = -9223372036854775808 → y = x) ∧ (x ≠ -9223372036854775808 → y = -x) := by
  refine ⟨_, rfl, ?_⟩
  rw [IntKind.wrap_i64]
  omega

theorem str_l (l : List UInt8) : (⟨l.toArray⟩ : ByteArray).data.toList = l := by simp
theorem extract_tail (s : ByteArray) : (s.extract 1 s.size).data.toList = s.data.toList.tail := by
  have h : s.data.toList.tail.length = s.size - 1 := by rw [List.length_tail]; rfl
  simp only [ByteArray.data_extract, Array.toList_extract, List.extract_eq_take_drop, List.drop_one]
  rw [← h, List.take_length]
theorem extract_one (x : UInt8) (l : List UInt8) : (⟨(x :: l).toArray⟩ : ByteArray).extract 1 (⟨(x :: l).toArray⟩ : ByteArray).size = ⟨l.toArray⟩ := by
  apply Go.WideShapes.bytes_inj
  exact (extract_tail _).trans (by simp)
theorem get_str (l : List UInt8) (k : Nat) (_h : k < (⟨l.toArray⟩ : ByteArray).size) (h2 : k < l.length) : (⟨l.toArray⟩ : ByteArray)[k] = l[k] := by
  show l.toArray[k] = l[k]
  simp
theorem size_str (l : List UInt8) : (⟨l.toArray⟩ : ByteArray).size = l.length := by show l.toArray.size = _; simp

end Go.Proofs.YtcngifkoopcmeaaGreatDoor
