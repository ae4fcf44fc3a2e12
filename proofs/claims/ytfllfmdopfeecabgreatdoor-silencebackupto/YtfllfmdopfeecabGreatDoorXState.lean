/-
  The state of the reading of a pattern, and what a call that reads some of it must come to.
-/
import Derived.Test.YtfllfmdopfeecabGreatDoorXLink
namespace Go.Proofs.YtfllfmdopfeecabGreatDoor
open Go.RowKit

structure St (w : World) (B rb xb : Nat) (s : ByteArray) (k : Nat) (l : List UInt8) (v : Value) (pl : List Pl) : Prop where
  rd : XdBlk w rb xb s k
  left : Left s k l
  rx : Rx w B xb v ⟨0, 0, false⟩ pl
  ne : rb ≠ xb
  rv : v.ownBlock ≠ some rb
  B1 : B ≤ rb
  tab : TabW w
  tabB : 4 < B
  lim : pl.length + l.length ≤ 64

/-- What the reading may turn. -/
def Own3 (rb xb : Nat) (v : Value) : Nat → Prop := fun k => k = rb ∨ k = xb ∨ some k = v.ownBlock

variable {w w' w1 w2 : World} {B rb xb : Nat} {s : ByteArray} {k : Nat} {l : List UInt8} {v v1 v2 : Value} {pl : List Pl}

theorem St.vlt (h : St w B rb xb s k l v pl) : ∀ b, v.ownBlock = some b → B ≤ b ∧ b < w.heap.size := h.rx.own.lt
theorem St.rlt (h : St w B rb xb s k l v pl) : rb < w.heap.size := h.rd.lt
theorem St.xlt (h : St w B rb xb s k l v pl) : xb < w.heap.size := h.rx.blk.lt
theorem St.own3 (h : St w B rb xb s k l v pl) : ∀ b, Own3 rb xb v b → B ≤ b ∧ b < w.heap.size := by
  rintro b (rfl | rfl | e)
  · exact ⟨h.B1, h.rlt⟩
  · exact ⟨h.rx.le, h.xlt⟩
  · exact h.vlt b e.symm
theorem St.Ble (h : St w B rb xb s k l v pl) : B ≤ w.heap.size := by have := h.B1; have := h.rlt; omega

theorem St.chg {S : Nat → Prop} (h : St w B rb xb s k l v pl) (hc : Chg S w w') (hs : ∀ b, S b → ¬ Own3 rb xb v b ∧ b ≠ 4) : St w' B rb xb s k l v pl :=
  ⟨h.rd.chg hc fun e => (hs _ e).1 (.inl rfl), h.left, h.rx.chg hc (fun e => (hs _ e).1 (.inr (.inl rfl))) (fun _ hb e => (hs _ e).1 (.inr (.inr hb.symm))), h.ne, h.rv, h.B1, h.tab.chg hc fun e => (hs _ e).2 rfl, h.tabB, h.lim⟩
theorem St.below (h : St w B rb xb s k l v pl) (hb : Below w.heap.size w w') : St w' B rb xb s k l v pl := h.chg (S := fun _ => False) (Chg.of_below hb) (fun _ h => h.elim)
theorem St.drewN (h : St w B rb xb s k l v pl) (n : Nat) : St (w.drewN n) B rb xb s k l v pl := h.below (below_drawn _ _)
theorem St.drew (h : St w B rb xb s k l v pl) : St w.drew B rb xb s k l v pl := h.below ((Below.refl _ _).drew)

/-- The reader alone has turned. -/
theorem St.went {k' : Nat} {l' : List UInt8} (h : St w B rb xb s k l v pl) (hg : w.grownBy w' (some rb)) (hr : XdBlk w' rb xb s k') (hl : Left s k' l') (hle : l'.length ≤ l.length) : St w' B rb xb s k' l' v pl := by
  have hc := Chg.of_grown hg
  have hB := h.B1
  have ht := h.tabB
  have hm := h.lim
  exact ⟨hr, hl, h.rx.chg hc (fun e => h.ne e.symm) (fun _ hb e => h.rv (by rw [hb, e])), h.ne, h.rv, h.B1, h.tab.chg hc (fun e => by omega), h.tabB, by omega⟩
theorem chg_rd (hg : w.grownBy w' (some rb)) : Chg (Own3 rb xb v) w w' := (Chg.of_grown hg).mono fun _ _ e => .inl e
theorem chg_rx (hc : Chg (Mine xb v) w w') : Chg (Own3 rb xb v) w w' := hc.mono fun _ _ e => e.elim (fun e => .inr (.inl e)) (fun e => .inr (.inr e))
theorem chg_pl (hc : Chg (fun b => some b = v.ownBlock) w w') : Chg (Own3 rb xb v) w w' := hc.mono fun _ _ e => .inr (.inr e)

/-- One reading behind another. -/
theorem Chg.on (h : Chg (Own3 rb xb v) w w1) (hm : Moved w v v1) (h1 : Chg (Own3 rb xb v1) w1 w2) : Chg (Own3 rb xb v) w w2 := by
  refine ⟨h1.os.trans h.os, h1.tape.trans h.tape, h1.output.trans h.output, Nat.le_trans h.size h1.size, fun b hb hn => ?_⟩
  refine (h1.block b (Nat.lt_of_lt_of_le hb h.size) ?_).trans (h.block b hb hn)
  rintro (e | e | e)
  · exact hn (.inl e)
  · exact hn (.inr (.inl e))
  · rcases hm with hm | hm
    · exact hn (.inr (.inr (e.trans hm)))
    · have := hm b e.symm; omega
theorem St.lost (h : St w B rb xb s k l v pl) (hc : Chg (Own3 rb xb v) w w') : Below B w w' := hc.below (fun b _ hb => (h.own3 b hb).1) h.Ble

/-- What a call that has read some of a pattern leaves. -/
structure Read (w w' : World) (B rb xb : Nat) (s : ByteArray) (v : Value) (pl : List Pl) (P : Pc) (A : Lang) (l' : List UInt8) (k' : Nat) (v' : Value) (pl' : List Pl) : Prop where
  st : St w' B rb xb s k' l' v' pl'
  chg : Chg (Own3 rb xb v) w w'
  moved : Moved w v v'
  old : ∀ i, i < pl.length → pl'[i]? = pl[i]?
  frag : Frag pl' pl.length pl'.length P A

theorem Read.first {P : Pc} {A : Lang} {l' : List UInt8} {k' : Nat} {v' : Value} {pl' : List Pl} (h : Read w w' B rb xb s v pl P A l' k' v' pl') : P.first < 18446744073709551616 := bit_lt (i := 64) fun j hj => by have := (h.frag.first j hj).2; have := h.st.rx.lim; omega
theorem Read.last {P : Pc} {A : Lang} {l' : List UInt8} {k' : Nat} {v' : Value} {pl' : List Pl} (h : Read w w' B rb xb s v pl P A l' k' v' pl') : P.last < 18446744073709551616 := bit_lt (i := 64) fun j hj => by have := (h.frag.last j hj).2; have := h.st.rx.lim; omega

/-- The contract of a call that reads: it gives up, or leaves what was read. -/
def Reads (f : FuncId) (o : Option (Lang × List UInt8)) (w : World) (B rb xb : Nat) (s : ByteArray) (v : Value) (pl : List Pl) : Prop :=
  match o with
  | none => Calls Tryz.prog f #[.pointer (some ⟨rb, 0, none⟩)] w fun e w' => e = gaveUp ∧ Below B w w'
  | some (A, l') => Calls Tryz.prog f #[.pointer (some ⟨rb, 0, none⟩)] w fun e w' => ∃ P, e = .returned (.agg #[.int .u64 (P.first : Int), .int .u64 (P.last : Int), .bool P.empty]) ∧ ∃ k' v' pl', Read w w' B rb xb s v pl P A l' k' v' pl'

/-- A new piece of zeros. -/
theorem St.pc (h : St w B rb xb s k l v pl) : ∃ W, w.alloc (.cells #[.int .u64 0, .int .u64 0, .bool false] 142) = W ∧ Below w.heap.size w W ∧ PcBlk W w.heap.size ⟨0, 0, false⟩ ∧ St W B rb xb s k l v pl :=
  ⟨_, rfl, (Below.refl _ _).alloc (Nat.le_refl _) _, pc_made w ⟨0, 0, false⟩, h.below ((Below.refl _ _).alloc (Nat.le_refl _) _)⟩

/-- A result that is stored in a new block. -/
theorem Read.sets {P : Pc} {A : Lang} {l' : List UInt8} {k' : Nat} {v' : Value} {pl' : List Pl} (h : Read w w' B rb xb s v pl P A l' k' v' pl') {b : Nat} (hb : w.heap.size ≤ b) (hr : rb < w.heap.size) (hx : xb < w.heap.size) (hv : v'.ownBlock ≠ some b) (x0 x1 x2 : Value) :
    Read w (((w'.setCell ⟨b, 0, none⟩ x0).setCell ⟨b, 1, none⟩ x1).setCell ⟨b, 2, none⟩ x2) B rb xb s v pl P A l' k' v' pl' :=
  ⟨h.st.chg (chg_sets3 w' b x0 x1 x2) (by
      rintro c rfl
      refine ⟨?_, by have h1 := h.st.tabB; have h2 := h.st.B1; omega⟩
      rintro (e | e | e)
      · omega
      · omega
      · exact hv e.symm), h.chg.new (chg_sets3 w' b x0 x1 x2) hb, h.moved, h.old, h.frag⟩
theorem Read.below {P : Pc} {A : Lang} {l' : List UInt8} {k' : Nat} {v' : Value} {pl' : List Pl} (h : Read w w' B rb xb s v pl P A l' k' v' pl') (hb : Below w'.heap.size w' w2) : Read w w2 B rb xb s v pl P A l' k' v' pl' :=
  ⟨h.st.below hb, h.chg.trans (Chg.of_below hb), h.moved, h.old, h.frag⟩
/-- It began earlier, with new blocks alone between. -/
theorem Read.early {P : Pc} {A : Lang} {l' : List UInt8} {k' : Nat} {v' : Value} {pl' : List Pl} (h : Read w1 w' B rb xb s v pl P A l' k' v' pl') (hb : Below w.heap.size w w1) : Read w w' B rb xb s v pl P A l' k' v' pl' := by
  refine ⟨h.st, (Chg.of_below hb).trans h.chg, ?_, h.old, h.frag⟩
  rcases h.moved with e | e
  · exact .inl e
  · exact .inr fun c hc => Nat.le_trans hb.size (e c hc)
/-- The reader alone went on ahead of it. -/
theorem Read.ahead {P : Pc} {A : Lang} {l' : List UInt8} {k' : Nat} {v' : Value} {pl' : List Pl} (h : Read w1 w' B rb xb s v pl P A l' k' v' pl') (hg : w.grownBy w1 (some rb)) : Read w w' B rb xb s v pl P A l' k' v' pl' := by
  refine ⟨h.st, (chg_rd hg).trans h.chg, ?_, h.old, h.frag⟩
  rcases h.moved with e | e
  · exact .inl e
  · exact .inr fun c hc => Nat.le_trans hg.size (e c hc)

/-- The reader alone goes on behind it. -/
theorem Read.then {P : Pc} {A : Lang} {l' l2 : List UInt8} {k' k2 : Nat} {v' : Value} {pl' : List Pl} (h : Read w w' B rb xb s v pl P A l' k' v' pl') (hg : w'.grownBy w2 (some rb)) (hr : XdBlk w2 rb xb s k2) (hl : Left s k2 l2) (hle : l2.length ≤ l'.length) : Read w w2 B rb xb s v pl P A l2 k2 v' pl' :=
  ⟨h.st.went hg hr hl hle, h.chg.on h.moved (chg_rd hg), h.moved, h.old, h.frag⟩

/-- A block that was there, and is none of the reading's, is none of it behind. -/
theorem Read.away {P : Pc} {A : Lang} {l' : List UInt8} {k' : Nat} {v' : Value} {pl' : List Pl} (h : Read w w' B rb xb s v pl P A l' k' v' pl') {b : Nat} (hb : b < w.heap.size) (hv : v.ownBlock ≠ some b) : v'.ownBlock ≠ some b := by
  rcases h.moved with e | e
  · rw [e]; exact hv
  · intro e2; have := e b e2; omega
theorem Read.pcs {P : Pc} {A : Lang} {l' : List UInt8} {k' : Nat} {v' : Value} {pl' : List Pl} (h : Read w w' B rb xb s v pl P A l' k' v' pl') {b : Nat} {Q : Pc} (hp : PcBlk w b Q) (hr : b ≠ rb) (hx : b ≠ xb) (hv : v.ownBlock ≠ some b) : PcBlk w' b Q := hp.chg h.chg (by
  rintro (e | e | e)
  · exact hr e
  · exact hx e
  · exact hv e.symm)

end Go.Proofs.YtfllfmdopfeecabGreatDoor
