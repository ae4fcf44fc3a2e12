/-
  New, and what a reader of package ben does to read a row of digits (row), a number (number) and Int. What a reader of package ben does to read a number (number), and Int: in the words of a list of bytes.
-/
import Derived.Test.YtcngifkoopcmeaaGreatDoorK15
import Derived.Test.YtcngifkoopcmeaaGreatDoorK16
import Derived.Lib.Hide
import Derived.Lib.Bytes
import Derived.Lib.IndexLaws
import Derived.Lib.ItoaLen
import Derived.Lib.AppendIntMem
import Derived.Lib.AtoiErrMem
import Derived.WalkSmall
import Derived.Laws.IdiomStrings
import Derived.Deep.QuietTactic
import Derived.BigQuiet
import Derived.Lib.ParseIntB
namespace Go.Proofs.YtcngifkoopcmeaaGreatDoor
open Go.RowKit

theorem grownBy_drewN (w : World) (n : Nat) (r : Option Nat) : w.grownBy (w.drewN n) r := ⟨rfl, rfl, rfl, Nat.le_refl _, fun _ _ _ => rfl⟩
theorem Rd.drewN {w : World} {rb : Nat} {a : Option Addr} {c : Nat} {l : List UInt8} {e : Int} (h : Rd w rb a c l e) (n : Nat) : Rd (w.drewN n) rb a c l e :=
  h.mono (r := none) (grownBy_drewN w n none) (by simp) (by simp)

theorem BytesAt.cells {w : World} {p : Addr} {l : List UInt8} (h : BytesAt w (some p) l) : ∀ i (hi : i < l.length), w.cell? (p.add i) = some (.int .u8 (l[i].toNat : Int)) := by
  intro i hi
  obtain ⟨b, o, hp, hc⟩ := h (by omega)
  obtain rfl := Option.some.inj hp
  rw [Go.WideShapes.add_plain, hc i hi]
  simp [List.getD, hi]

theorem bytesOf_nums (l : List UInt8) : Lib.bytesOf (l.map fun b => (b.toNat : Int)) = l := by
  unfold Lib.bytesOf
  rw [List.map_map]
  conv => rhs; rw [← List.map_id l]
  refine List.map_congr_left fun b _ => ?_
  simp

/-- bytes.IndexByte of the first n bytes that are left. -/
theorem indexByte_at (p : Addr) (n c : Nat) (l : List UInt8) (ch : UInt8) (w : World) (hn : n ≤ l.length) (h : BytesAt w (some p) l) :
    Calls Tryz.prog 175 #[.slice (some p) n c, .int .u8 ch.toNat] w fun e w' => e = .returned (.int .i64 (Lib.indexByte (l.take n) ch)) ∧ w' = w := by
  have hc := h.cells
  have := Tryz.bytes_IndexByte_at p n c ((l.take n).map fun b => (b.toNat : Int)) ch.toNat w (by simp; omega) (fun i hi => by
    rw [hc i (by omega)]
    simp [List.getD, hi, show i < l.length by omega])
  rw [bytesOf_nums] at this
  simpa using this

theorem take_min (l : List UInt8) (m : Nat) : l.take (min l.length (m + 1)) = l.take (m + 1) := by
  rw [List.take_eq_take_iff]; omega

theorem hit_facts {l : List UInt8} {m : Nat} {ch : UInt8} {k : Nat} (hidx : Lib.indexByte (l.take (m + 1)) ch = k) : k < l.length ∧ k ≤ m ∧ l[k]? = some ch := by
  obtain ⟨h1, _⟩ := Lib.indexByte_some hidx
  have h2 := (List.getElem?_eq_some_iff.1 h1).1
  simp only [List.length_take] at h2
  refine ⟨by omega, by omega, ?_⟩
  rw [List.getElem?_take] at h1
  split at h1
  · exact h1
  · cases h1

/-- string(b[:k]) of what is left. -/
theorem convert_take {w : World} {p : Addr} {l : List UInt8} (h : BytesAt w (some p) l) (k c nq : Nat) (hk : k ≤ l.length) :
    (convert 111 9 (.slice (some p) k c)).run Tryz.prog (w.drewN nq) = .ok (.string ⟨(l.take k).toArray⟩) (w.drewN nq) := by
  have hl : (l.take k).length = k := by simp; omega
  have := run_convert_bytes_back (P := Tryz.prog) (w.drewN nq) 111 9 5 p c (l.take k) Tryz.underlying111 Tryz.underlying5 Tryz.underlying9 (fun j hj => by
    rw [List.length_take] at hj
    rw [List.getElem_take]
    exact h.cells j (by omega))
  rw [hl] at this
  exact this

set_option maxHeartbeats 400000 in
theorem row_hit (rb : Nat) (p : Addr) (c : Nat) (l : List UInt8) (m : Nat) (ch : UInt8) (k : Nat) (w : World) (h : Rd w rb (some p) c l 0) (hm : m ≤ 100) (hidx : Lib.indexByte (l.take (m + 1)) ch = k) :
    Calls Tryz.prog 159 #[.pointer (some ⟨rb, 0, none⟩), .int .i64 m, .int .u8 ch.toNat] w fun r w' => r = .returned (.tuple #[.string ⟨(l.take k).toArray⟩, .bool true]) ∧ (∃ p, Rd w' rb (some p) (c - (k + 1)) (l.drop (k + 1)) 0) ∧ w.grownBy w' (some rb) := by
  have c0 := h.blk.cell0
  have f0 := h.blk.frozen 0
  have hle := h.le
  have hlim := h.lim
  unfold maxLen at hlim
  obtain ⟨hk, hkm, _⟩ := hit_facts hidx
  have hib : ∀ nq, Calls Tryz.prog 175 #[.slice (some p) (min (l.length : Int) ((m : Int) + 1)).toNat c, .int .u8 ch.toNat] (w.drewN nq) fun e w' => e = .returned (.int .i64 (k : Int)) ∧ w' = w.drewN nq := by
    intro nq
    have e1 : (min (l.length : Int) ((m : Int) + 1)).toNat = min l.length (m + 1) := by omega
    have := indexByte_at p (min l.length (m + 1)) c l ch (w.drewN nq) (by omega) (h.drewN nq).bytes
    rw [take_min, hidx] at this
    rw [e1]
    exact this
  have hcv := fun nq => convert_take h.bytes k c nq (by omega)
  have hs1 := fun (w : World) => slice_to (some p) l.length c k w (by omega)
  have hr := h.addr (k + 1) (by omega)
  obtain ⟨p', hp⟩ : ∃ p', some p' = (if c = k + 1 then some p else (some p).map (·.add ((k + 1) * 1))) := by split <;> exact ⟨_, rfl⟩
  rw [← hp] at hr
  have hs2 : ∀ w, (Instr.slice 111 (.slice (some p) l.length c) (some (.int .i64 ((k : Int) + 1))) none none).run Tryz.prog w = .ok (.slice (some p') (l.length - (k + 1)) (c - (k + 1))) w := by
    intro w
    rw [hp]
    exact slice_from (some p) l.length c (k + 1) w (by omega)
  clear hp hidx
  have HR := Lib.hid hr
  clear hr
  have HI := Lib.hid hib
  clear hib
  go_enter Tryz.func159, Tryz.ntmps159
  go_wp2
  go_quiet ((go_at_call 175; exact Calls.quiet_of_same (HI.out _)))
  go_wp2
  go_ret2
  refine ⟨rfl, ⟨p', ?_⟩, ?_⟩
  · exact HR.out.drewN _
  · exact grownBy_trans (grownBy_setCell _ _ _ _) (grownBy_drewN _ _ _)

set_option maxHeartbeats 400000 in
theorem row_long (rb : Nat) (p : Addr) (c : Nat) (l : List UInt8) (m : Nat) (ch : UInt8) (w : World) (h : Rd w rb (some p) c l 0) (hm : m ≤ 100) (hidx : Lib.indexByte (l.take (m + 1)) ch = -1) (hlong : m < l.length) :
    Calls Tryz.prog 159 #[.pointer (some ⟨rb, 0, none⟩), .int .i64 m, .int .u8 ch.toNat] w fun r w' => r = .returned (.tuple #[.string ⟨#[]⟩, .bool false]) ∧ Rd w' rb none 0 [] 4 ∧ w.grownBy w' (some rb) := by
  have c0 := h.blk.cell0
  have hle := h.le
  have hlim := h.lim
  unfold maxLen at hlim
  have hib : ∀ nq, Calls Tryz.prog 175 #[.slice (some p) (min (l.length : Int) ((m : Int) + 1)).toNat c, .int .u8 ch.toNat] (w.drewN nq) fun e w' => e = .returned (.int .i64 (-1)) ∧ w' = w.drewN nq := by
    intro nq
    have e1 : (min (l.length : Int) ((m : Int) + 1)).toNat = min l.length (m + 1) := by omega
    have := indexByte_at p (min l.length (m + 1)) c l ch (w.drewN nq) (by omega) (h.drewN nq).bytes
    rw [take_min, hidx] at this
    rw [e1]
    exact this
  clear hidx
  have HI := Lib.hid hib
  clear hib
  go_enter Tryz.func159, Tryz.ntmps159
  go_wp2
  go_quiet ((go_at_call 175; exact Calls.quiet_of_same (HI.out _)))
  go_wp2_with (go_at_call 133; refine (fail_any rb (some p) _ c 0 4 _ (h.drewN _).blk).mono ?_; rintro r w' ⟨rfl, hb, hg⟩)
  go_ret2
  exact ⟨rfl, Rd.failed hb, grownBy_trans (grownBy_drewN _ _ _) hg⟩

set_option maxHeartbeats 400000 in
theorem row_cut (rb : Nat) (p : Addr) (c : Nat) (l : List UInt8) (m : Nat) (ch : UInt8) (w : World) (h : Rd w rb (some p) c l 0) (hm : m ≤ 100) (hidx : Lib.indexByte (l.take (m + 1)) ch = -1) (hshort : l.length ≤ m) :
    Calls Tryz.prog 159 #[.pointer (some ⟨rb, 0, none⟩), .int .i64 m, .int .u8 ch.toNat] w fun r w' => r = .returned (.tuple #[.string ⟨#[]⟩, .bool false]) ∧ Rd w' rb none 0 [] 3 ∧ w.grownBy w' (some rb) := by
  have c0 := h.blk.cell0
  have hle := h.le
  have hlim := h.lim
  unfold maxLen at hlim
  have hib : ∀ nq, Calls Tryz.prog 175 #[.slice (some p) (min (l.length : Int) ((m : Int) + 1)).toNat c, .int .u8 ch.toNat] (w.drewN nq) fun e w' => e = .returned (.int .i64 (-1)) ∧ w' = w.drewN nq := by
    intro nq
    have e1 : (min (l.length : Int) ((m : Int) + 1)).toNat = min l.length (m + 1) := by omega
    have := indexByte_at p (min l.length (m + 1)) c l ch (w.drewN nq) (by omega) (h.drewN nq).bytes
    rw [take_min, hidx] at this
    rw [e1]
    exact this
  clear hidx
  have HI := Lib.hid hib
  clear hib
  go_enter Tryz.func159, Tryz.ntmps159
  go_wp2
  go_quiet ((go_at_call 175; exact Calls.quiet_of_same (HI.out _)))
  go_wp2_with (go_at_call 133; refine (fail_any rb (some p) _ c 0 3 _ (h.drewN _).blk).mono ?_; rintro r w' ⟨rfl, hb, hg⟩)
  go_ret2
  exact ⟨rfl, Rd.failed hb, grownBy_trans (grownBy_drewN _ _ _) hg⟩

/-- What the library's variables hold, now and whatever is done at blocks from B on. -/
def VarsOk (B : Nat) (w : World) : Prop := ∀ w', Below B w w' →
  Lib.TabIs Tryz.prog w' "internal/strconv.uint64pow10" .u64 Lib.pow10Tab ∧ (∃ tp p, w'.var? Tryz.prog "strconv.ErrSyntax" = some #[.iface tp p]) ∧ (∃ tp p, w'.var? Tryz.prog "strconv.ErrRange" = some #[.iface tp p])
theorem VarsOk.on {B : Nat} {w w' : World} (h : VarsOk B w) (hb : Below B w w') : VarsOk B w' := fun w2 h2 => h w2 (hb.trans h2)
theorem VarsOk.here {B : Nat} {w : World} (h : VarsOk B w) : Lib.TabIs Tryz.prog w "internal/strconv.uint64pow10" .u64 Lib.pow10Tab ∧ (∃ tp p, w.var? Tryz.prog "strconv.ErrSyntax" = some #[.iface tp p]) ∧ (∃ tp p, w.var? Tryz.prog "strconv.ErrRange" = some #[.iface tp p]) := h w (Below.refl _ _)
theorem VarsOk.tab {B : Nat} {w : World} (h : VarsOk B w) : Lib.TabBelow Tryz.prog B w "internal/strconv.uint64pow10" .u64 Lib.pow10Tab := fun w2 h2 => (h w2 h2).1
theorem below_of_grownBy {B rb : Nat} {w w' : World} (h : w.grownBy w' (some rb)) (hr : B ≤ rb) (hB : B ≤ w.heap.size) : Below B w w' :=
  (Below.refl B w).grown h hB (fun k hk => by cases hk; exact hr)

theorem parseInt_bad (d : List UInt8) (hl : d.length ≤ 1000) (w : World) (B : Nat) (hv : VarsOk B w) (h : ∀ v, Lib.parseIntB 64 d ≠ .ok v) :
    Calls Tryz.prog 160 #[.string ⟨d.toArray⟩, .int .i64 10, .int .i64 64] w fun e w' => ∃ n t v, e = .returned (.tuple #[.int .i64 n, .iface t v]) ∧ Below w.heap.size w w' := by
  obtain ⟨_, ⟨ts, ps, hs⟩, ⟨tr, pr, hr⟩⟩ := hv.here
  have hz : (⟨d.toArray⟩ : ByteArray).size ≤ 281474976710656 := by show d.toArray.size ≤ _; simp; omega
  rcases hp : Lib.parseIntB 64 d with v | _ | _
  · exact absurd hp (h v)
  · refine (Any.strconv_ParseInt_10_at64_syntax_var Tryz.laysC174 ⟨d.toArray⟩ hz (by simpa using hp) ts ps w hs).mono ?_
    rintro e w' ⟨N, he, _, _, hb⟩
    exact ⟨_, _, _, he, hb⟩
  · refine (Any.strconv_ParseInt_10_at64_range_var Tryz.laysC174 ⟨d.toArray⟩ hz (by simpa using hp) tr pr w hr).mono ?_
    rintro e w' ⟨N, he, _, _, hb⟩
    exact ⟨_, _, _, he, hb⟩

theorem parseInt_good (d : List UInt8) (hl : d.length ≤ 1000) (n : Int) (w : World) (h : Lib.parseIntB 64 d = .ok n) :
    Calls Tryz.prog 160 #[.string ⟨d.toArray⟩, .int .i64 10, .int .i64 64] w fun e w' => e = .returned (.tuple #[.int .i64 n, .nilIface]) ∧ Below w.heap.size w w' := by
  refine (Tryz.strconv_ParseInt_10_at64_ok ⟨d.toArray⟩ (by show d.toArray.size ≤ _; simp; omega) n (by simpa using h) w).mono ?_
  rintro e w' ⟨he, rfl | ⟨t, rfl⟩⟩
  · exact ⟨he, Below.refl _ _⟩
  · exact ⟨he, Lib.bytesWorld_below _ _ _⟩

theorem formatInt_any (n : Int) (h0 : -9223372036854775808 ≤ n) (h1 : n ≤ 9223372036854775807) (w : World) (B : Nat) (hv : VarsOk B w) :
    Calls Tryz.prog 161 #[.int .i64 n, .int .i64 10] w fun e w' => e = .returned (.string ⟨(Lib.itoa n).toArray⟩) ∧ Below w.heap.size w w' := by
  refine (Tryz.strconv_FormatInt_10 n h0 h1 w hv.here.1).mono ?_
  rintro e w' ⟨he, k, os, rfl⟩
  exact ⟨he, Lib.below_grow _ _ (Nat.le_refl _) _ _⟩

end Go.Proofs.YtcngifkoopcmeaaGreatDoor
namespace Go.Proofs.YtcngifkoopcmeaaGreatDoor
open Go.RowKit

/-- The number whose digits these are, if there is one. -/
def numOf (d : List UInt8) : Option Int :=
  match Lib.parseIntB 64 d with
  | .ok n => if Lib.itoa n = d then some n else none
  | _ => none

theorem numOf_some {d : List UInt8} {n : Int} (h : numOf d = some n) : Lib.parseIntB 64 d = .ok n ∧ Lib.itoa n = d := by
  unfold numOf at h
  split at h
  · split at h
    · cases h; exact ⟨by assumption, by assumption⟩
    · cases h
  · cases h

set_option maxHeartbeats 400000 in
theorem number_long (rb : Nat) (p : Addr) (c : Nat) (l : List UInt8) (m : Nat) (ch : UInt8) (w : World) (h : Rd w rb (some p) c l 0) (hm : m ≤ 100) (hidx : Lib.indexByte (l.take (m + 1)) ch = -1) (hlong : m < l.length) :
    Calls Tryz.prog 134 #[.pointer (some ⟨rb, 0, none⟩), .int .i64 m, .int .u8 ch.toNat] w fun r w' => r = .returned (.tuple #[.int .i64 0, .bool false]) ∧ Rd w' rb none 0 [] 4 ∧ w.grownBy w' (some rb) := by
  have HI := Lib.hid hidx
  clear hidx
  go_enter Tryz.func134, Tryz.ntmps134
  go_wp2_with (go_at_call 159; refine (row_long rb p c l m ch _ h hm HI.out hlong).mono ?_; rintro r w' ⟨rfl, hr, hg⟩)
  go_ret2
  exact ⟨rfl, hr, hg⟩

set_option maxHeartbeats 400000 in
theorem number_cut (rb : Nat) (p : Addr) (c : Nat) (l : List UInt8) (m : Nat) (ch : UInt8) (w : World) (h : Rd w rb (some p) c l 0) (hm : m ≤ 100) (hidx : Lib.indexByte (l.take (m + 1)) ch = -1) (hshort : l.length ≤ m) :
    Calls Tryz.prog 134 #[.pointer (some ⟨rb, 0, none⟩), .int .i64 m, .int .u8 ch.toNat] w fun r w' => r = .returned (.tuple #[.int .i64 0, .bool false]) ∧ Rd w' rb none 0 [] 3 ∧ w.grownBy w' (some rb) := by
  have HI := Lib.hid hidx
  clear hidx
  go_enter Tryz.func134, Tryz.ntmps134
  go_wp2_with (go_at_call 159; refine (row_cut rb p c l m ch _ h hm HI.out hshort).mono ?_; rintro r w' ⟨rfl, hr, hg⟩)
  go_ret2
  exact ⟨rfl, hr, hg⟩

set_option maxHeartbeats 400000 in
theorem number_bad (rb : Nat) (p : Addr) (c : Nat) (l : List UInt8) (m : Nat) (ch : UInt8) (k B : Nat) (w : World) (h : Rd w rb (some p) c l 0) (hm : m ≤ 100) (hidx : Lib.indexByte (l.take (m + 1)) ch = k) (hB : B ≤ rb) (hv : VarsOk B w)
    (hn : numOf (l.take k) = none) :
    Calls Tryz.prog 134 #[.pointer (some ⟨rb, 0, none⟩), .int .i64 m, .int .u8 ch.toNat] w fun r w' => r = .returned (.tuple #[.int .i64 0, .bool false]) ∧ Rd w' rb none 0 [] 4 ∧ w.grownBy w' (some rb) := by
  obtain ⟨hk, hkm, _⟩ := hit_facts hidx
  have hBw : B ≤ w.heap.size := by have := h.blk.lt; omega
  have hl : (l.take k).length ≤ 1000 := by simp; omega
  have HI := Lib.hid hidx
  clear hidx
  by_cases hp : ∃ v, Lib.parseIntB 64 (l.take k) = .ok v
  · obtain ⟨v, hp⟩ := hp
    have hne : Lib.itoa v ≠ l.take k := by
      intro e
      unfold numOf at hn
      rw [hp] at hn
      simp [e] at hn
    have hbd := Lib.parseIntB_bounds (B := 64) hp
    have hb0 : -9223372036854775808 ≤ v ∧ v ≤ 9223372036854775807 := by have e : ((2 ^ (64 - 1) : Nat) : Int) = 9223372036854775808 := by decide
                                                                        rw [e] at hbd; omega
    have HV : Hid (-9223372036854775808 ≤ v ∧ v ≤ 9223372036854775807) := hb0
    have HP : Hid (Lib.parseIntB 64 (l.take k) = .ok v) := hp
    clear hp hn hbd hb0
    generalize hd : Lib.itoa v = d at hne
    have HD : Hid (Lib.itoa v = d) := hd
    clear hd
    go_enter Tryz.func134, Tryz.ntmps134
    go_wp2_with (go_at_call 159; refine (row_hit rb p c l m ch k _ h hm HI.out).mono ?_; rintro r w1 ⟨rfl, ⟨p1, hr1⟩, hg1⟩; refine Hid.out ?_)
    refine Lib.hid ?_
    have hv1 := hv.on (below_of_grownBy hg1 hB hBw)
    have hBw1 : B ≤ w1.heap.size := by have := hg1.size; omega
    go_wp2_with (go_at_call 160; refine (parseInt_good (l.take k) hl v _ HP.out).mono ?_; rintro r w2 ⟨rfl, hb2⟩; refine Hid.out ?_)
    refine Lib.hid ?_
    have hv2 := hv1.on (hb2.mono hBw1)
    go_wp2_with (go_at_call 161; refine (formatInt_any v HV.out.1 HV.out.2 _ B hv2).mono ?_; rintro r w3 ⟨rfl, hb3⟩; refine Hid.out ?_)
    refine Lib.hid ?_
    rw [HD.out]
    have hq : (d == l.take k) = false := by simpa using hne
    go_wp2_with (go_at_call 133; refine (fail_any rb _ _ _ 0 4 _ ((hr1.below hb2).below hb3).blk).mono ?_; rintro r w4 ⟨rfl, hb4, hg4⟩)
    go_ret2
    exact ⟨rfl, Rd.failed hb4, grownBy_trans hg1 (grownBy_trans (grownBy_of_below hb2) (grownBy_trans (grownBy_of_below hb3) hg4))⟩
  · have HP : Hid (∀ v, Lib.parseIntB 64 (l.take k) ≠ .ok v) := fun v e => hp ⟨v, e⟩
    clear hp hn
    go_enter Tryz.func134, Tryz.ntmps134
    go_wp2_with (go_at_call 159; refine (row_hit rb p c l m ch k _ h hm HI.out).mono ?_; rintro r w1 ⟨rfl, ⟨p1, hr1⟩, hg1⟩)
    go_wp2_with (go_at_call 160; refine (parseInt_bad (l.take k) hl _ B (hv.on (below_of_grownBy hg1 hB hBw)) HP.out).mono ?_; rintro r w2 ⟨n2, t2, v2, rfl, hb2⟩)
    go_wp2_with (go_at_call 133; refine (fail_any rb _ _ _ 0 4 _ (hr1.below hb2).blk).mono ?_; rintro r w3 ⟨rfl, hb3, hg3⟩)
    go_ret2
    exact ⟨rfl, Rd.failed hb3, grownBy_trans hg1 (grownBy_trans (grownBy_of_below hb2) hg3)⟩

set_option maxHeartbeats 400000 in
theorem number_ok (rb : Nat) (p : Addr) (c : Nat) (l : List UInt8) (m : Nat) (ch : UInt8) (k B : Nat) (w : World) (h : Rd w rb (some p) c l 0) (hm : m ≤ 100) (hidx : Lib.indexByte (l.take (m + 1)) ch = k) (hB : B ≤ rb) (hv : VarsOk B w)
    (n : Int) (hn : numOf (l.take k) = some n) :
    Calls Tryz.prog 134 #[.pointer (some ⟨rb, 0, none⟩), .int .i64 m, .int .u8 ch.toNat] w fun r w' => r = .returned (.tuple #[.int .i64 n, .bool true]) ∧ (∃ p, Rd w' rb (some p) (c - (k + 1)) (l.drop (k + 1)) 0) ∧ w.grownBy w' (some rb) := by
  obtain ⟨hk, hkm, _⟩ := hit_facts hidx
  have hBw : B ≤ w.heap.size := by have := h.blk.lt; omega
  have hl : (l.take k).length ≤ 1000 := by simp; omega
  have HI := Lib.hid hidx
  obtain ⟨hp, hd⟩ := numOf_some hn
  have hbd := Lib.parseIntB_bounds (B := 64) hp
  have hb0 : -9223372036854775808 ≤ n ∧ n ≤ 9223372036854775807 := by
    have e : ((2 ^ (64 - 1) : Nat) : Int) = 9223372036854775808 := by decide
    rw [e] at hbd; omega
  have HV : Hid (-9223372036854775808 ≤ n ∧ n ≤ 9223372036854775807) := hb0
  have HP : Hid (Lib.parseIntB 64 (l.take k) = .ok n) := hp
  have HD : Hid (Lib.itoa n = l.take k) := hd
  clear hp hn hbd hb0 hd hidx
  go_enter Tryz.func134, Tryz.ntmps134
  go_wp2_with (go_at_call 159; refine (row_hit rb p c l m ch k _ h hm HI.out).mono ?_; rintro r w1 ⟨rfl, ⟨p1, hr1⟩, hg1⟩; refine Hid.out ?_)
  refine Lib.hid ?_
  have hv1 := hv.on (below_of_grownBy hg1 hB hBw)
  have hBw1 : B ≤ w1.heap.size := by have := hg1.size; omega
  go_wp2_with (go_at_call 160; refine (parseInt_good (l.take k) hl n _ HP.out).mono ?_; rintro r w2 ⟨rfl, hb2⟩; refine Hid.out ?_)
  refine Lib.hid ?_
  have hv2 := hv1.on (hb2.mono hBw1)
  go_wp2_with (go_at_call 161; refine (formatInt_any n HV.out.1 HV.out.2 _ B hv2).mono ?_; rintro r w3 ⟨rfl, hb3⟩; refine Hid.out ?_)
  refine Lib.hid ?_
  rw [HD.out]
  go_wp2
  go_ret2
  exact ⟨rfl, ⟨p1, (hr1.below hb2).below hb3⟩, grownBy_trans hg1 (grownBy_trans (grownBy_of_below hb2) (grownBy_of_below hb3))⟩

/- Int -/
set_option maxHeartbeats 400000 in
theorem rInt_nil (w : World) : Calls Tryz.prog 89 #[.pointer none] w fun r w' => r = .returned (.int .i64 0) ∧ w' = w := by
  go_enter Tryz.func89, Tryz.ntmps89
  go_wp2_with (go_at_call 131; refine (take_nil _ _).mono ?_; rintro r w' ⟨rfl, rfl⟩)
  go_ret
  exact ⟨rfl, rfl⟩
set_option maxHeartbeats 400000 in
theorem rInt_err (rb : Nat) (a : Option Addr) (c : Nat) (l : List UInt8) (e : Int) (w : World) (h : Rd w rb a c l e) (he : (e != 0) = true) :
    Calls Tryz.prog 89 #[.pointer (some ⟨rb, 0, none⟩)] w fun r w' => r = .returned (.int .i64 0) ∧ w' = w := by
  go_enter Tryz.func89, Tryz.ntmps89
  go_wp2_with (go_at_call 131; refine (take_err rb a c l e _ _ h he).mono ?_; rintro r w' ⟨rfl, rfl⟩)
  go_ret
  exact ⟨rfl, rfl⟩

/-- What Int makes of what is left: what is left then, the error, the number. -/
def rdInt : List UInt8 → List UInt8 × Int × Int
  | [] => ([], 3, 0)
  | x :: l => if x ≠ 105 then ([], 4, 0) else
    if Lib.indexByte (l.take 21) 101 = -1 then (if 20 < l.length then ([], 4, 0) else ([], 3, 0)) else
    match numOf (l.take (Lib.indexByte (l.take 21) 101).toNat) with
    | some n => (l.drop ((Lib.indexByte (l.take 21) 101).toNat + 1), 0, n)
    | none => ([], 4, 0)

set_option maxHeartbeats 1000000 in
theorem rInt_any (rb : Nat) (a : Option Addr) (c : Nat) (l : List UInt8) (B : Nat) (w : World) (h : Rd w rb a c l 0) (hB : B ≤ rb) (hv : VarsOk B w) :
    Calls Tryz.prog 89 #[.pointer (some ⟨rb, 0, none⟩)] w fun r w' => r = .returned (.int .i64 (rdInt l).2.2) ∧ (∃ a c, Rd w' rb a c (rdInt l).1 (rdInt l).2.1) ∧ w.grownBy w' (some rb) := by
  have hBw : B ≤ w.heap.size := by have := h.blk.lt; omega
  cases l with
  | nil =>
    show Calls Tryz.prog 89 #[.pointer (some ⟨rb, 0, none⟩)] w fun r w' => r = .returned (.int .i64 0) ∧ (∃ a c, Rd w' rb a c [] 3) ∧ w.grownBy w' (some rb)
    go_enter Tryz.func89, Tryz.ntmps89
    go_wp2_with (go_at_call 131; refine (take_cut rb a c _ _ h).mono ?_; rintro r w' ⟨rfl, hr, hg⟩)
    go_ret
    exact ⟨rfl, ⟨_, _, hr⟩, hg⟩
  | cons x l =>
    by_cases hx : x = 105
    · subst hx
      have e0 : rdInt (105 :: l) = (if Lib.indexByte (l.take 21) 101 = -1 then (if 20 < l.length then ([], 4, 0) else ([], 3, 0)) else
          match numOf (l.take (Lib.indexByte (l.take 21) 101).toNat) with
          | some n => (l.drop ((Lib.indexByte (l.take 21) 101).toNat + 1), 0, n)
          | none => ([], 4, 0) : List UInt8 × Int × Int) := rfl
      by_cases hi : Lib.indexByte (l.take 21) 101 = -1
      · rw [e0, if_pos hi]
        by_cases hl : 20 < l.length
        · rw [if_pos hl]
          show Calls Tryz.prog 89 #[.pointer (some ⟨rb, 0, none⟩)] w fun r w' => r = .returned (.int .i64 0) ∧ (∃ a c, Rd w' rb a c [] 4) ∧ w.grownBy w' (some rb)
          have HI := Lib.hid hi
          clear hi e0
          go_enter Tryz.func89, Tryz.ntmps89
          go_wp2_with (go_at_call 131; refine (take_ok rb a c 105 l _ _ h (by decide)).mono ?_; rintro r w1 ⟨rfl, ⟨p1, hr1⟩, hg1⟩)
          go_wp2_with (go_at_call 134; refine (number_long rb p1 _ l 20 101 _ hr1 (by omega) HI.out hl).mono ?_; rintro r w2 ⟨rfl, hr2, hg2⟩)
          go_ret
          exact ⟨rfl, ⟨_, _, hr2⟩, grownBy_trans hg1 hg2⟩
        · rw [if_neg hl]
          show Calls Tryz.prog 89 #[.pointer (some ⟨rb, 0, none⟩)] w fun r w' => r = .returned (.int .i64 0) ∧ (∃ a c, Rd w' rb a c [] 3) ∧ w.grownBy w' (some rb)
          have HI := Lib.hid hi
          clear hi e0
          go_enter Tryz.func89, Tryz.ntmps89
          go_wp2_with (go_at_call 131; refine (take_ok rb a c 105 l _ _ h (by decide)).mono ?_; rintro r w1 ⟨rfl, ⟨p1, hr1⟩, hg1⟩)
          go_wp2_with (go_at_call 134; refine (number_cut rb p1 _ l 20 101 _ hr1 (by omega) HI.out (by omega)).mono ?_; rintro r w2 ⟨rfl, hr2, hg2⟩)
          go_ret
          exact ⟨rfl, ⟨_, _, hr2⟩, grownBy_trans hg1 hg2⟩
      · rw [e0, if_neg hi]
        obtain ⟨k, hk⟩ : ∃ k : Nat, Lib.indexByte (l.take 21) 101 = k := ⟨(Lib.indexByte (l.take 21) 101).toNat, by have := Lib.indexByte_ge (l.take 21) 101; omega⟩
        rw [hk, Int.toNat_natCast]
        have HI := Lib.hid hk
        clear hi e0 hk
        cases hn : numOf (l.take k) with
        | none =>
          show Calls Tryz.prog 89 #[.pointer (some ⟨rb, 0, none⟩)] w fun r w' => r = .returned (.int .i64 0) ∧ (∃ a c, Rd w' rb a c [] 4) ∧ w.grownBy w' (some rb)
          have HN := Lib.hid hn
          clear hn
          go_enter Tryz.func89, Tryz.ntmps89
          go_wp2_with (go_at_call 131; refine (take_ok rb a c 105 l _ _ h (by decide)).mono ?_; rintro r w1 ⟨rfl, ⟨p1, hr1⟩, hg1⟩)
          go_wp2_with (go_at_call 134; refine (number_bad rb p1 _ l 20 101 k B _ hr1 (by omega) HI.out hB (hv.on (below_of_grownBy hg1 hB hBw)) HN.out).mono ?_; rintro r w2 ⟨rfl, hr2, hg2⟩)
          go_ret
          exact ⟨rfl, ⟨_, _, hr2⟩, grownBy_trans hg1 hg2⟩
        | some n =>
          show Calls Tryz.prog 89 #[.pointer (some ⟨rb, 0, none⟩)] w fun r w' => r = .returned (.int .i64 n) ∧ (∃ a c, Rd w' rb a c (l.drop (k + 1)) 0) ∧ w.grownBy w' (some rb)
          have HN := Lib.hid hn
          clear hn
          go_enter Tryz.func89, Tryz.ntmps89
          go_wp2_with (go_at_call 131; refine (take_ok rb a c 105 l _ _ h (by decide)).mono ?_; rintro r w1 ⟨rfl, ⟨p1, hr1⟩, hg1⟩)
          go_wp2_with (go_at_call 134; refine (number_ok rb p1 _ l 20 101 k B _ hr1 (by omega) HI.out hB (hv.on (below_of_grownBy hg1 hB hBw)) n HN.out).mono ?_; rintro r w2 ⟨rfl, ⟨p2, hr2⟩, hg2⟩)
          go_ret
          exact ⟨rfl, ⟨_, _, hr2⟩, grownBy_trans hg1 hg2⟩
    · have e0 : rdInt (x :: l) = ([], 4, 0) := by simp [rdInt, hx]
      rw [e0]
      show Calls Tryz.prog 89 #[.pointer (some ⟨rb, 0, none⟩)] w fun r w' => r = .returned (.int .i64 0) ∧ (∃ a c, Rd w' rb a c [] 4) ∧ w.grownBy w' (some rb)
      have hxb : ((x.toNat : Int) != 105) = true := by
        have : x.toNat ≠ 105 := fun e => hx (by apply UInt8.toNat_inj.1; simpa using e)
        simp; omega
      clear hx e0
      go_enter Tryz.func89, Tryz.ntmps89
      go_wp2_with (go_at_call 131; refine (take_other rb a c x l _ _ h hxb).mono ?_; rintro r w1 ⟨rfl, hr1, hg1⟩)
      go_ret
      exact ⟨rfl, ⟨_, _, hr1⟩, hg1⟩

end Go.Proofs.YtcngifkoopcmeaaGreatDoor
