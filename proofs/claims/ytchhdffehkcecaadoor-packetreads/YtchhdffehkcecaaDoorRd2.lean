/-
  New, and what a reader of package ben does to read a row of digits (row), a number (number) and Int.
-/
import Derived.Test.YtchhdffehkcecaaDoorRd
import Derived.Test.YtchhdffehkcecaaDoorShelf
import Derived.Lib.Hide
import Derived.Lib.Bytes
import Derived.Lib.IndexLaws
import Derived.Lib.ItoaLen
import Derived.Lib.AppendIntMem
import Derived.Lib.AtoiErrMem
import Derived.WalkSmall
import Derived.Laws.IdiomStrings
import Derived.Deep.QuietTactic
import Derived.BigQuiet
namespace Go.Proofs.YtchhdffehkcecaaDoor
open Go.RowKit

theorem grownBy_drewN (w : World) (n : Nat) (r : Option Nat) : w.grownBy (w.drewN n) r := ⟨rfl, rfl, rfl, Nat.le_refl _, fun _ _ _ => rfl⟩
theorem Rd.drewN {w : World} {rb : Nat} {a : Option Addr} {c : Nat} {l : List UInt8} {e : Int} (h : Rd w rb a c l e) (n : Nat) : Rd (w.drewN n) rb a c l e :=
  h.mono (r := none) (grownBy_drewN w n none) (by simp) (by simp)

theorem BytesAt.cells {w : World} {p : Addr} {l : List UInt8} (h : BytesAt w (some p) l) : ∀ i (hi : i < l.length), w.cell? (p.add i) = some (.int .u8 (l[i].toNat : Int)) := by
  intro i hi
  obtain ⟨b, o, hp, hc⟩ := h (by omega)
  obtain rfl := Option.some.inj hp
  rw [Go.WideShapes.add_plain, hc i hi]
  simp [List.getD, hi]

theorem bytesOf_nums (l : List UInt8) : Lib.bytesOf (l.map fun b => (b.toNat : Int)) = l := by
  unfold Lib.bytesOf
  rw [List.map_map]
  conv => rhs; rw [← List.map_id l]
  refine List.map_congr_left fun b _ => ?_
  simp

/-- bytes.IndexByte of the first n bytes that are left. -/
theorem indexByte_at (p : Addr) (n c : Nat) (l : List UInt8) (ch : UInt8) (w : World) (hn : n ≤ l.length) (h : BytesAt w (some p) l) :
    Calls Tryd.prog 81 #[.slice (some p) n c, .int .u8 ch.toNat] w fun e w' => e = .returned (.int .i64 (Lib.indexByte (l.take n) ch)) ∧ w' = w := by
  have hc := h.cells
  have := Tryd.bytes_IndexByte_at p n c ((l.take n).map fun b => (b.toNat : Int)) ch.toNat w (by simp; omega) (fun i hi => by
    rw [hc i (by omega)]
    simp [List.getD, hi, show i < l.length by omega])
  rw [bytesOf_nums] at this
  simpa using this

theorem take_min (l : List UInt8) (m : Nat) : l.take (min l.length (m + 1)) = l.take (m + 1) := by
  rw [List.take_eq_take_iff]; omega

theorem hit_facts {l : List UInt8} {m : Nat} {ch : UInt8} {k : Nat} (hidx : Lib.indexByte (l.take (m + 1)) ch = k) : k < l.length ∧ k ≤ m ∧ l[k]? = some ch := by
  obtain ⟨h1, _⟩ := Lib.indexByte_some hidx
  have h2 := (List.getElem?_eq_some_iff.1 h1).1
  simp only [List.length_take] at h2
  refine ⟨by omega, by omega, ?_⟩
  rw [List.getElem?_take] at h1
  split at h1
  · exact h1
  · cases h1

/-- string(b[:k]) of what is left. -/
theorem convert_take {w : World} {p : Addr} {l : List UInt8} (h : BytesAt w (some p) l) (k c nq : Nat) (hk : k ≤ l.length) :
    (convert 30 9 (.slice (some p) k c)).run Tryd.prog (w.drewN nq) = .ok (.string ⟨(l.take k).toArray⟩) (w.drewN nq) := by
  have hl : (l.take k).length = k := by simp; omega
  have := run_convert_bytes_back (P := Tryd.prog) (w.drewN nq) 30 9 5 p c (l.take k) Tryd.underlying30 Tryd.underlying5 Tryd.underlying9 (fun j hj => by
    rw [List.length_take] at hj
    rw [List.getElem_take]
    exact h.cells j (by omega))
  rw [hl] at this
  exact this

set_option maxHeartbeats 400000 in
theorem row_hit (rb : Nat) (p : Addr) (c : Nat) (l : List UInt8) (m : Nat) (ch : UInt8) (k : Nat) (w : World) (h : Rd w rb (some p) c l 0) (hm : m ≤ 100) (hidx : Lib.indexByte (l.take (m + 1)) ch = k) :
    Calls Tryd.prog 77 #[.pointer (some ⟨rb, 0, none⟩), .int .i64 m, .int .u8 ch.toNat] w fun r w' => r = .returned (.tuple #[.string ⟨(l.take k).toArray⟩, .bool true]) ∧ (∃ p, Rd w' rb (some p) (c - (k + 1)) (l.drop (k + 1)) 0) ∧ w.grownBy w' (some rb) := by
  have c0 := h.blk.cell0
  have f0 := h.blk.frozen 0
  have hle := h.le
  have hlim := h.lim
  unfold maxLen at hlim
  obtain ⟨hk, hkm, _⟩ := hit_facts hidx
  have hib : ∀ nq, Calls Tryd.prog 81 #[.slice (some p) (min (l.length : Int) ((m : Int) + 1)).toNat c, .int .u8 ch.toNat] (w.drewN nq) fun e w' => e = .returned (.int .i64 (k : Int)) ∧ w' = w.drewN nq := by
    intro nq
    have e1 : (min (l.length : Int) ((m : Int) + 1)).toNat = min l.length (m + 1) := by omega
    have := indexByte_at p (min l.length (m + 1)) c l ch (w.drewN nq) (by omega) (h.drewN nq).bytes
    rw [take_min, hidx] at this
    rw [e1]
    exact this
  have hcv := fun nq => convert_take h.bytes k c nq (by omega)
  have hs1 := fun (w : World) => slice_to (some p) l.length c k w (by omega)
  have hr := h.addr (k + 1) (by omega)
  obtain ⟨p', hp⟩ : ∃ p', some p' = (if c = k + 1 then some p else (some p).map (·.add ((k + 1) * 1))) := by split <;> exact ⟨_, rfl⟩
  rw [← hp] at hr
  have hs2 : ∀ w, (Instr.slice 30 (.slice (some p) l.length c) (some (.int .i64 ((k : Int) + 1))) none none).run Tryd.prog w = .ok (.slice (some p') (l.length - (k + 1)) (c - (k + 1))) w := by
    intro w
    rw [hp]
    exact slice_from (some p) l.length c (k + 1) w (by omega)
  clear hp hidx
  have HR := Lib.hid hr
  clear hr
  have HI := Lib.hid hib
  clear hib
  go_enter Tryd.func77, Tryd.ntmps77
  go_wp2
  go_quiet ((go_at_call 81; exact Calls.quiet_of_same (HI.out _)))
  go_wp2
  go_ret2
  refine ⟨rfl, ⟨p', ?_⟩, ?_⟩
  · exact HR.out.drewN _
  · exact grownBy_trans (grownBy_setCell _ _ _ _) (grownBy_drewN _ _ _)

set_option maxHeartbeats 400000 in
theorem row_long (rb : Nat) (p : Addr) (c : Nat) (l : List UInt8) (m : Nat) (ch : UInt8) (w : World) (h : Rd w rb (some p) c l 0) (hm : m ≤ 100) (hidx : Lib.indexByte (l.take (m + 1)) ch = -1) (hlong : m < l.length) :
    Calls Tryd.prog 77 #[.pointer (some ⟨rb, 0, none⟩), .int .i64 m, .int .u8 ch.toNat] w fun r w' => r = .returned (.tuple #[.string ⟨#[]⟩, .bool false]) ∧ Rd w' rb none 0 [] 4 ∧ w.grownBy w' (some rb) := by
  have c0 := h.blk.cell0
  have hle := h.le
  have hlim := h.lim
  unfold maxLen at hlim
  have hib : ∀ nq, Calls Tryd.prog 81 #[.slice (some p) (min (l.length : Int) ((m : Int) + 1)).toNat c, .int .u8 ch.toNat] (w.drewN nq) fun e w' => e = .returned (.int .i64 (-1)) ∧ w' = w.drewN nq := by
    intro nq
    have e1 : (min (l.length : Int) ((m : Int) + 1)).toNat = min l.length (m + 1) := by omega
    have := indexByte_at p (min l.length (m + 1)) c l ch (w.drewN nq) (by omega) (h.drewN nq).bytes
    rw [take_min, hidx] at this
    rw [e1]
    exact this
  clear hidx
  have HI := Lib.hid hib
  clear hib
  go_enter Tryd.func77, Tryd.ntmps77
  go_wp2
  go_quiet ((go_at_call 81; exact Calls.quiet_of_same (HI.out _)))
  go_wp2_with (go_at_call 76; refine (fail_any rb (some p) _ c 0 4 _ (h.drewN _).blk).mono ?_; rintro r w' ⟨rfl, hb, hg⟩)
  go_ret2
  exact ⟨rfl, Rd.failed hb, grownBy_trans (grownBy_drewN _ _ _) hg⟩

set_option maxHeartbeats 400000 in
theorem row_cut (rb : Nat) (p : Addr) (c : Nat) (l : List UInt8) (m : Nat) (ch : UInt8) (w : World) (h : Rd w rb (some p) c l 0) (hm : m ≤ 100) (hidx : Lib.indexByte (l.take (m + 1)) ch = -1) (hshort : l.length ≤ m) :
    Calls Tryd.prog 77 #[.pointer (some ⟨rb, 0, none⟩), .int .i64 m, .int .u8 ch.toNat] w fun r w' => r = .returned (.tuple #[.string ⟨#[]⟩, .bool false]) ∧ Rd w' rb none 0 [] 3 ∧ w.grownBy w' (some rb) := by
  have c0 := h.blk.cell0
  have hle := h.le
  have hlim := h.lim
  unfold maxLen at hlim
  have hib : ∀ nq, Calls Tryd.prog 81 #[.slice (some p) (min (l.length : Int) ((m : Int) + 1)).toNat c, .int .u8 ch.toNat] (w.drewN nq) fun e w' => e = .returned (.int .i64 (-1)) ∧ w' = w.drewN nq := by
    intro nq
    have e1 : (min (l.length : Int) ((m : Int) + 1)).toNat = min l.length (m + 1) := by omega
    have := indexByte_at p (min l.length (m + 1)) c l ch (w.drewN nq) (by omega) (h.drewN nq).bytes
    rw [take_min, hidx] at this
    rw [e1]
    exact this
  clear hidx
  have HI := Lib.hid hib
  clear hib
  go_enter Tryd.func77, Tryd.ntmps77
  go_wp2
  go_quiet ((go_at_call 81; exact Calls.quiet_of_same (HI.out _)))
  go_wp2_with (go_at_call 76; refine (fail_any rb (some p) _ c 0 3 _ (h.drewN _).blk).mono ?_; rintro r w' ⟨rfl, hb, hg⟩)
  go_ret2
  exact ⟨rfl, Rd.failed hb, grownBy_trans (grownBy_drewN _ _ _) hg⟩

/-- What the library's variables hold, now and whatever is done at blocks from B on. -/
def VarsOk (B : Nat) (w : World) : Prop := ∀ w', Below B w w' →
  Lib.TabIs Tryd.prog w' "internal/strconv.uint64pow10" .u64 Lib.pow10Tab ∧ (∃ tp p, w'.var? Tryd.prog "strconv.ErrSyntax" = some #[.iface tp p]) ∧ (∃ tp p, w'.var? Tryd.prog "strconv.ErrRange" = some #[.iface tp p])
theorem VarsOk.on {B : Nat} {w w' : World} (h : VarsOk B w) (hb : Below B w w') : VarsOk B w' := fun w2 h2 => h w2 (hb.trans h2)
theorem VarsOk.here {B : Nat} {w : World} (h : VarsOk B w) : Lib.TabIs Tryd.prog w "internal/strconv.uint64pow10" .u64 Lib.pow10Tab ∧ (∃ tp p, w.var? Tryd.prog "strconv.ErrSyntax" = some #[.iface tp p]) ∧ (∃ tp p, w.var? Tryd.prog "strconv.ErrRange" = some #[.iface tp p]) := h w (Below.refl _ _)
theorem VarsOk.tab {B : Nat} {w : World} (h : VarsOk B w) : Lib.TabBelow Tryd.prog B w "internal/strconv.uint64pow10" .u64 Lib.pow10Tab := fun w2 h2 => (h w2 h2).1
theorem below_of_grownBy {B rb : Nat} {w w' : World} (h : w.grownBy w' (some rb)) (hr : B ≤ rb) (hB : B ≤ w.heap.size) : Below B w w' :=
  (Below.refl B w).grown h hB (fun k hk => by cases hk; exact hr)

theorem parseInt_bad (d : List UInt8) (hl : d.length ≤ 1000) (w : World) (B : Nat) (hv : VarsOk B w) (h : ∀ v, Lib.parseIntB 64 d ≠ .ok v) :
    Calls Tryd.prog 78 #[.string ⟨d.toArray⟩, .int .i64 10, .int .i64 64] w fun e w' => ∃ n t v, e = .returned (.tuple #[.int .i64 n, .iface t v]) ∧ Below w.heap.size w w' := by
  obtain ⟨_, ⟨ts, ps, hs⟩, ⟨tr, pr, hr⟩⟩ := hv.here
  have hz : (⟨d.toArray⟩ : ByteArray).size ≤ 281474976710656 := by show d.toArray.size ≤ _; simp; omega
  rcases hp : Lib.parseIntB 64 d with v | _ | _
  · exact absurd hp (h v)
  · refine (Any.strconv_ParseInt_10_at64_syntax_var Tryd.laysC174 ⟨d.toArray⟩ hz (by simpa using hp) ts ps w hs).mono ?_
    rintro e w' ⟨N, he, _, _, hb⟩
    exact ⟨_, _, _, he, hb⟩
  · refine (Any.strconv_ParseInt_10_at64_range_var Tryd.laysC174 ⟨d.toArray⟩ hz (by simpa using hp) tr pr w hr).mono ?_
    rintro e w' ⟨N, he, _, _, hb⟩
    exact ⟨_, _, _, he, hb⟩

theorem parseInt_good (d : List UInt8) (hl : d.length ≤ 1000) (n : Int) (w : World) (h : Lib.parseIntB 64 d = .ok n) :
    Calls Tryd.prog 78 #[.string ⟨d.toArray⟩, .int .i64 10, .int .i64 64] w fun e w' => e = .returned (.tuple #[.int .i64 n, .nilIface]) ∧ Below w.heap.size w w' := by
  refine (Tryd.strconv_ParseInt_10_at64_ok ⟨d.toArray⟩ (by show d.toArray.size ≤ _; simp; omega) n (by simpa using h) w).mono ?_
  rintro e w' ⟨he, rfl | ⟨t, rfl⟩⟩
  · exact ⟨he, Below.refl _ _⟩
  · exact ⟨he, Lib.bytesWorld_below _ _ _⟩

theorem formatInt_any (n : Int) (h0 : -9223372036854775808 ≤ n) (h1 : n ≤ 9223372036854775807) (w : World) (B : Nat) (hv : VarsOk B w) :
    Calls Tryd.prog 79 #[.int .i64 n, .int .i64 10] w fun e w' => e = .returned (.string ⟨(Lib.itoa n).toArray⟩) ∧ Below w.heap.size w w' := by
  refine (Tryd.strconv_FormatInt_10 n h0 h1 w hv.here.1).mono ?_
  rintro e w' ⟨he, k, os, rfl⟩
  exact ⟨he, Lib.below_grow _ _ (Nat.le_refl _) _ _⟩

end Go.Proofs.YtchhdffehkcecaaDoor
