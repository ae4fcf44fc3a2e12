/-
  A pattern that the reference is reading: the trees t and r in blocks of their own, their rows, and what the parts mean. How the reference reads a pattern. What the reference's Parse tells: the document's error, and a tree that means the pattern.
-/
import Derived.Test.YtcngifkoopcmeaaGreatDoorK33
import Derived.Great.BuildSlice
import Derived.Test.YtcngifkoopcmeaaGreatDoorK13
namespace Go.Proofs.YtcngifkoopcmeaaGreatDoor
open Go.RowKit

/-- The blocks that the parts' own rows may lie in: made by the call, and written no more. -/
def Frz (B : Nat) (w : World) (E : Nat → Prop) (va vr : Value) (b : Nat) : Prop := B ≤ b ∧ b < w.heap.size ∧ ¬ E b ∧ va.ownBlock ≠ some b ∧ vr.ownBlock ≠ some b

/-- Parts mean what is named. -/
def Dens (d : Nat) (w : World) (X : Nat → Prop) (ts : List TV) (Ls : List Lang) : Prop := ts.length = Ls.length ∧ ∀ i (h1 : i < ts.length) (h2 : i < Ls.length), Den d w X ts[i] Ls[i]
theorem Dens.nil (d : Nat) (w : World) (X : Nat → Prop) : Dens d w X [] [] := ⟨rfl, fun _ h1 => absurd h1 (Nat.not_lt_zero _)⟩
theorem Dens.keep {d : Nat} {w w' : World} {X Y : Nat → Prop} {ts : List TV} {Ls : List Lang} (h : Dens d w X ts Ls) (hw : ∀ b, X b → w'.heap[b]? = w.heap[b]?) (hX : ∀ b, X b → Y b) : Dens d w' Y ts Ls :=
  ⟨h.1, fun i h1 h2 => Den.keep hw hX d _ _ (h.2 i h1 h2)⟩
theorem Dens.le {d e : Nat} (hde : d ≤ e) {w : World} {X : Nat → Prop} {ts : List TV} {Ls : List Lang} (h : Dens d w X ts Ls) : Dens e w X ts Ls := ⟨h.1, fun i h1 h2 => (h.2 i h1 h2).le hde⟩
theorem Dens.snoc {d : Nat} {w : World} {X : Nat → Prop} {ts : List TV} {Ls : List Lang} (h : Dens d w X ts Ls) {t : TV} {L : Lang} (ht : Den d w X t L) : Dens d w X (ts ++ [t]) (Ls ++ [L]) := by
  refine ⟨by simp [h.1], fun i h1 h2 => ?_⟩
  by_cases hi : i < ts.length
  · rw [List.getElem_append_left hi, List.getElem_append_left (by rw [← h.1]; exact hi)]
    exact h.2 i hi _
  · have e : i = ts.length := by simp at h1; omega
    subst e
    rw [List.getElem_append_right (Nat.le_refl _), List.getElem_append_right (by rw [h.1]; exact Nat.le_refl _)]
    simpa using ht

/-- t's block, the answer's block, the rows of t and of r. -/
structure PS (w0 w : World) (E : Nat → Prop) (aT : Option Addr) (cT : Nat) (ts : List TV) (Ls : List Lang) (aR : Option Addr) (cR : Nat) (rs : List TV) (Ms : List Lang) (d : Nat) : Prop where
  t : TreeBlk w (w0.heap.size + 1) ⟨2, noneB, aT, ts.length, cT⟩
  z : TreeBlk w w0.heap.size (noT 0)
  ot : OwnTr w (w0.heap.size + 3) (.slice aT ts.length cT) ts
  ow : OwnTr w (w0.heap.size + 3) (.slice aR rs.length cR) rs
  ap : ∀ b, (Value.slice aT ts.length cT).ownBlock = some b → (Value.slice aR rs.length cR).ownBlock ≠ some b
  ex : ∀ b, E b → w0.heap.size + 3 ≤ b ∧ (Value.slice aT ts.length cT).ownBlock ≠ some b ∧ (Value.slice aR rs.length cR).ownBlock ≠ some b
  dt : Dens d w (Frz (w0.heap.size + 3) w E (.slice aT ts.length cT) (.slice aR rs.length cR)) ts Ls
  dr : Dens d w (Frz (w0.heap.size + 3) w E (.slice aT ts.length cT) (.slice aR rs.length cR)) rs Ms
  bl : Below w0.heap.size w0 w
  sz : w0.heap.size + 3 ≤ w.heap.size

section
variable {w0 w w' : World} {E : Nat → Prop} {aT aR : Option Addr} {cT cR : Nat} {ts rs : List TV} {Ls Ms : List Lang} {d : Nat}

theorem OwnTr.of {B : Nat} {v : Value} (h : OwnTr w B v ts) (hv : ∀ b, v.ownBlock = some b → w'.heap[b]? = w.heap[b]?) : OwnTr w' B v ts := by
  refine ⟨h.1, ?_⟩
  rcases h.2 with h1 | ⟨g, cap, cur, rfl, hg0, hg1, h2⟩
  · exact .inl h1
  · exact .inr ⟨g, cap, cur, rfl, hg0, (hv g rfl).trans hg1, h2⟩
theorem own_max {B : Nat} {v : Value} (h : OwnTr w B v ts) : ts.length ≤ 9223372036854775807 := by
  rcases h.2 with ⟨-, h1⟩ | ⟨g, cap, cur, -, -, -, hcap, hmax, -⟩
  · omega
  · unfold maxLen at hmax; omega
theorem OwnTr.lt {B : Nat} {v : Value} (h : OwnTr w B v ts) : ∀ b, v.ownBlock = some b → B ≤ b ∧ b < w.heap.size := World.ownsRow.lt h

/-- What writes r's block, or those that are set apart, leaves all that. -/
theorem PS.chg (h : PS w0 w E aT cT ts Ls aR cR rs Ms d) {S : Nat → Prop} (hc : Chg S w w') (hS : ∀ b, S b → b = w0.heap.size + 2 ∨ E b) : PS w0 w' E aT cT ts Ls aR cR rs Ms d := by
  have hn : ∀ b, b < w.heap.size → b ≠ w0.heap.size + 2 → ¬ E b → w'.heap[b]? = w.heap[b]? := fun b hb h1 h2 => hc.block b hb fun hs => (hS b hs).elim h1 h2
  have hsz := h.sz
  have hX : ∀ b, Frz (w0.heap.size + 3) w E (.slice aT ts.length cT) (.slice aR rs.length cR) b → w'.heap[b]? = w.heap[b]? := fun b ⟨h1, h2, h3, _⟩ => hn b h2 (by omega) h3
  have hY : ∀ b, Frz (w0.heap.size + 3) w E (.slice aT ts.length cT) (.slice aR rs.length cR) b → Frz (w0.heap.size + 3) w' E (.slice aT ts.length cT) (.slice aR rs.length cR) b := fun b ⟨h1, h2, h3⟩ => ⟨h1, Nat.lt_of_lt_of_le h2 hc.size, h3⟩
  have hE1 : ¬ E (w0.heap.size + 1) := fun e => by have := (h.ex _ e).1; omega
  have hE0 : ¬ E w0.heap.size := fun e => by have := (h.ex _ e).1; omega
  refine ⟨h.t.of (hn _ (by omega) (by omega) hE1), h.z.of (hn _ (by omega) (by omega) hE0), h.ot.of fun b hb => ?_, h.ow.of fun b hb => ?_, h.ap, h.ex, h.dt.keep hX hY, h.dr.keep hX hY, ?_, Nat.le_trans hsz hc.size⟩
  · have := h.ot.lt b hb
    exact hn b this.2 (by omega) fun e => (h.ex b e).2.1 hb
  · have := h.ow.lt b hb
    exact hn b this.2 (by omega) fun e => (h.ex b e).2.2 hb
  · refine h.bl.trans (hc.below (fun k _ hk => ?_) (by omega))
    rcases hS k hk with e | e
    · omega
    · have := (h.ex k e).1; omega
theorem PS.below (h : PS w0 w E aT cT ts Ls aR cR rs Ms d) (hb : Below w.heap.size w w') : PS w0 w' E aT cT ts Ls aR cR rs Ms d := h.chg (S := fun _ => False) (Chg.of_below hb) fun _ e => e.elim
theorem PS.le (h : PS w0 w E aT cT ts Ls aR cR rs Ms d) {e : Nat} (hde : d ≤ e) : PS w0 w E aT cT ts Ls aR cR rs Ms e := ⟨h.t, h.z, h.ot, h.ow, h.ap, h.ex, h.dt.le hde, h.dr.le hde, h.bl, h.sz⟩
/-- A block that is new is set apart. -/
theorem PS.apart (h : PS w0 w (fun _ => False) aT cT ts Ls aR cR rs Ms d) (hb : Below w.heap.size w w') (ab : Nat) (hab : w.heap.size ≤ ab) : PS w0 w' (· = ab) aT cT ts Ls aR cR rs Ms d := by
  have h2 := h.below hb
  have hX : ∀ b, Frz (w0.heap.size + 3) w (fun _ => False) (.slice aT ts.length cT) (.slice aR rs.length cR) b → w'.heap[b]? = w.heap[b]? := fun b hx => hb.block b hx.2.1
  have hY : ∀ b, Frz (w0.heap.size + 3) w (fun _ => False) (.slice aT ts.length cT) (.slice aR rs.length cR) b → Frz (w0.heap.size + 3) w' (· = ab) (.slice aT ts.length cT) (.slice aR rs.length cR) b := fun b ⟨k1, k2, _, k4⟩ => ⟨k1, Nat.lt_of_lt_of_le k2 hb.size, (fun e => by omega), k4⟩
  refine ⟨h2.t, h2.z, h2.ot, h2.ow, h.ap, fun b e => ?_, h.dt.keep hX hY, h.dr.keep hX hY, h2.bl, h2.sz⟩
  subst e
  have := h.sz
  exact ⟨by omega, fun e => by have := (h.ot.lt _ e).2; omega, fun e => by have := (h.ow.lt _ e).2; omega⟩
theorem PS.drop (h : PS w0 w E aT cT ts Ls aR cR rs Ms d) : PS w0 w (fun _ => False) aT cT ts Ls aR cR rs Ms d := by
  have hY : ∀ b, Frz (w0.heap.size + 3) w E (.slice aT ts.length cT) (.slice aR rs.length cR) b → Frz (w0.heap.size + 3) w (fun _ => False) (.slice aT ts.length cT) (.slice aR rs.length cR) b := fun b ⟨k1, k2, _, k4⟩ => ⟨k1, k2, (fun e => e), k4⟩
  exact ⟨h.t, h.z, h.ot, h.ow, h.ap, fun b e => e.elim, h.dt.keep (fun _ _ => rfl) hY, h.dr.keep (fun _ _ => rfl) hY, h.bl, h.sz⟩

/-- One more part of r. -/
theorem PS.addR (h : PS w0 w E aT cT ts Ls aR cR rs Ms d) {p : TV} {L : Lang} (hp : Den d w (Frz (w0.heap.size + 3) w E (.slice aT ts.length cT) (.slice aR rs.length cR)) p L) {a' : Option Addr} {c' : Nat} {w2 : World} (hE : ∀ b, E b → b < w.heap.size)
    (hown : OwnTr w2 (w0.heap.size + 3) (.slice a' (rs.length + 1) c') (rs ++ [p])) (hg : w.grownBy w2 (Value.slice aR rs.length cR).ownBlock) (hm : (Value.slice a' (rs.length + 1) c').ownBlock = (Value.slice aR rs.length cR).ownBlock ∨ (Value.slice a' (rs.length + 1) c').ownBlock = some w.heap.size) :
    PS w0 (w2.setCell ⟨w0.heap.size + 2, 257, none⟩ (.slice a' (rs.length + 1) c')) E aT cT ts Ls a' c' (rs ++ [p]) (Ms ++ [L]) d := by
  have hsz := h.sz
  have hs2 := hg.size
  have hg3 := xgrown_setCell w2 (w0.heap.size + 2) 257 (.slice a' (rs.length + 1) c')
  have hs3 := hg3.size
  have hlen : (rs ++ [p]).length = rs.length + 1 := by simp
  have hn : ∀ b, b < w.heap.size → b ≠ w0.heap.size + 2 → (Value.slice aR rs.length cR).ownBlock ≠ some b → (w2.setCell ⟨w0.heap.size + 2, 257, none⟩ (.slice a' (rs.length + 1) c')).heap[b]? = w.heap[b]? := fun b hb h1 h2 =>
    (hg3.block b (by omega) (by simpa using h1)).trans (hg.block b hb fun e => h2 e.symm)
  have hnr : ∀ b, (Value.slice aR rs.length cR).ownBlock ≠ some b → b < w.heap.size → (Value.slice a' (rs.length + 1) c').ownBlock ≠ some b := fun b h1 h2 e => by
    rcases hm with k | k
    · exact h1 (k.symm.trans e)
    · rw [k] at e; have := Option.some.inj e; omega
  have hrl := h.ow.lt
  have htl := h.ot.lt
  have hX : ∀ b, Frz (w0.heap.size + 3) w E (.slice aT ts.length cT) (.slice aR rs.length cR) b → (w2.setCell ⟨w0.heap.size + 2, 257, none⟩ (.slice a' (rs.length + 1) c')).heap[b]? = w.heap[b]? := fun b ⟨h1, h2, _, _, h5⟩ => hn b h2 (by omega) h5
  have hY : ∀ b, Frz (w0.heap.size + 3) w E (.slice aT ts.length cT) (.slice aR rs.length cR) b → Frz (w0.heap.size + 3) (w2.setCell ⟨w0.heap.size + 2, 257, none⟩ (.slice a' (rs.length + 1) c')) E (.slice aT ts.length cT) (.slice a' (rs ++ [p]).length c') b := fun b ⟨h1, h2, h3, h4, h5⟩ => ⟨h1, by omega, h3, h4, by rw [hlen]; exact hnr b h5 h2⟩
  have hown3 : OwnTr (w2.setCell ⟨w0.heap.size + 2, 257, none⟩ (.slice a' (rs.length + 1) c')) (w0.heap.size + 3) (.slice a' (rs ++ [p]).length c') (rs ++ [p]) := by
    rw [hlen]
    exact ownsRow_setCell_below hown (by show w0.heap.size + 2 < w0.heap.size + 3; omega) _
  refine ⟨h.t.of (hn _ (by omega) (by omega) fun e => by have := (hrl _ e).1; omega), h.z.of (hn _ (by omega) (by omega) fun e => by have := (hrl _ e).1; omega), h.ot.of fun b hb => hn b (htl b hb).2 (by have := (htl b hb).1; omega) (h.ap b hb), hown3, fun b hb => by rw [hlen]; exact hnr b (h.ap b hb) (htl b hb).2, fun b e => ?_, h.dt.keep hX hY, (h.dr.snoc hp).keep hX hY, ?_, by omega⟩
  · have := h.ex b e
    exact ⟨this.1, this.2.1, by rw [hlen]; exact hnr b this.2.2 (hE b e)⟩
  · refine ⟨by rw [hg3.os, hg.os, h.bl.os], by rw [hg3.tape, hg.tape, h.bl.tape], by rw [hg3.output, hg.output, h.bl.output], by omega, fun k hk => ?_⟩
    exact (hn k (by omega) (by omega) fun e => by have := (hrl _ e).1; omega).trans (h.bl.block k hk)

/-- r becomes a part of t; there is no r any more. -/
theorem PS.addT (h : PS w0 w (fun _ => False) aT cT ts Ls aR cR rs Ms d) {a' : Option Addr} {c' : Nat} {w2 : World}
    (hown : OwnTr w2 (w0.heap.size + 3) (.slice a' (ts.length + 1) c') (ts ++ [⟨1, noneB, aR, rs.length, cR⟩])) (hg : w.grownBy w2 (Value.slice aT ts.length cT).ownBlock) (hm : (Value.slice a' (ts.length + 1) c').ownBlock = (Value.slice aT ts.length cT).ownBlock ∨ (Value.slice a' (ts.length + 1) c').ownBlock = some w.heap.size) :
    PS w0 (w2.setCell ⟨w0.heap.size + 1, 257, none⟩ (.slice a' (ts.length + 1) c')) (fun _ => False) a' c' (ts ++ [⟨1, noneB, aR, rs.length, cR⟩]) (Ls ++ [Ms.foldl catL epsL]) none 0 [] [] (d + 1) := by
  have hsz := h.sz
  have hs2 := hg.size
  have hg3 := xgrown_setCell w2 (w0.heap.size + 1) 257 (.slice a' (ts.length + 1) c')
  have hs3 := hg3.size
  have hlen : (ts ++ [(⟨1, noneB, aR, rs.length, cR⟩ : TV)]).length = ts.length + 1 := by simp
  have hn : ∀ b, b < w.heap.size → b ≠ w0.heap.size + 1 → (Value.slice aT ts.length cT).ownBlock ≠ some b → (w2.setCell ⟨w0.heap.size + 1, 257, none⟩ (.slice a' (ts.length + 1) c')).heap[b]? = w.heap[b]? := fun b hb h1 h2 =>
    (hg3.block b (by omega) (by simpa using h1)).trans (hg.block b hb fun e => h2 e.symm)
  have hnt : ∀ b, (Value.slice aT ts.length cT).ownBlock ≠ some b → b < w.heap.size → (Value.slice a' (ts.length + 1) c').ownBlock ≠ some b := fun b h1 h2 e => by
    rcases hm with k | k
    · exact h1 (k.symm.trans e)
    · rw [k] at e; have := Option.some.inj e; omega
  have hrl := h.ow.lt
  have htl := h.ot.lt
  have hX : ∀ b, Frz (w0.heap.size + 3) w (fun _ => False) (.slice aT ts.length cT) (.slice aR rs.length cR) b → (w2.setCell ⟨w0.heap.size + 1, 257, none⟩ (.slice a' (ts.length + 1) c')).heap[b]? = w.heap[b]? := fun b ⟨h1, h2, _, h4, _⟩ => hn b h2 (by omega) h4
  have hY : ∀ b, Frz (w0.heap.size + 3) w (fun _ => False) (.slice aT ts.length cT) (.slice aR rs.length cR) b → Frz (w0.heap.size + 3) (w2.setCell ⟨w0.heap.size + 1, 257, none⟩ (.slice a' (ts.length + 1) c')) (fun _ => False) (.slice a' (ts ++ [(⟨1, noneB, aR, rs.length, cR⟩ : TV)]).length c') (.slice none 0 0) b := fun b ⟨h1, h2, h3, h4, h5⟩ => ⟨h1, by omega, h3, by rw [hlen]; exact hnt b h4 h2, fun e => by cases e⟩
  have hown3 : OwnTr (w2.setCell ⟨w0.heap.size + 1, 257, none⟩ (.slice a' (ts.length + 1) c')) (w0.heap.size + 3) (.slice a' (ts ++ [(⟨1, noneB, aR, rs.length, cR⟩ : TV)]).length c') (ts ++ [⟨1, noneB, aR, rs.length, cR⟩]) := by
    rw [hlen]
    exact ownsRow_setCell_below hown (by show w0.heap.size + 1 < w0.heap.size + 3; omega) _
  have htb : TreeBlk w2 (w0.heap.size + 1) ⟨2, noneB, aT, ts.length, cT⟩ := h.t.kept hg fun e => by have := (htl _ e.symm).1; omega
  have ht3 := htb.setSl a' (ts.length + 1) c'
  have hdr := h.dr.keep hX hY
  have hrow : Den (d + 1) (w2.setCell ⟨w0.heap.size + 1, 257, none⟩ (.slice a' (ts.length + 1) c')) (Frz (w0.heap.size + 3) (w2.setCell ⟨w0.heap.size + 1, 257, none⟩ (.slice a' (ts.length + 1) c')) (fun _ => False) (.slice a' (ts ++ [(⟨1, noneB, aR, rs.length, cR⟩ : TV)]).length c') (.slice none 0 0)) ⟨1, noneB, aR, rs.length, cR⟩ (Ms.foldl catL epsL) := by
    refine .inr ⟨rs, Ms, ⟨rfl, own_max h.ow, ?_⟩, hdr.1, hdr.2, .inl ⟨rfl, fun _ => Iff.rfl⟩⟩
    show rs.length = 0 ∨ ∃ g, aR = some ⟨g, 0, none⟩ ∧ _
    rcases h.ow.2 with ⟨h1, h2⟩ | ⟨g, cap, cur, h1, hg0, hg1, hcap, hmax, hcs, htk⟩
    · exact .inl h2
    · injection h1 with e1 e2 e3
      subst e1 e3
      have hgl := hrl g rfl
      have hga : (Value.slice aT ts.length cT).ownBlock ≠ some g := fun e => h.ap g e rfl
      refine .inr ⟨g, rfl, ⟨hgl.1, by omega, (fun e => e), by rw [hlen]; exact hnt g hga hgl.2, fun e => by cases e⟩, fun i hi j hj => ?_⟩
      rw [World.cell?_of_block (w := w) (hn g hgl.2 (by omega) hga), World.ownsRow.cellAt h.ow _ (by omega), trow_get rs i hi j hj]
  refine ⟨by rw [hlen]; exact ht3, h.z.of (hn _ (by omega) (by omega) fun e => by have := (htl _ e).1; omega), hown3, World.ownsRow_nil _ _ _ _, (fun b hb e => by cases e), (fun b e => e.elim), ((h.dt.keep hX hY).le (Nat.le_succ d)).snoc hrow, Dens.nil _ _ _, ?_, by omega⟩
  refine ⟨by rw [hg3.os, hg.os, h.bl.os], by rw [hg3.tape, hg.tape, h.bl.tape], by rw [hg3.output, hg.output, h.bl.output], by omega, fun k hk => ?_⟩
  exact (hn k (by omega) (by omega) fun e => by have := (htl _ e).1; omega).trans (h.bl.block k hk)

theorem PS.tne (h : PS w0 w E aT cT ts Ls aR cR rs Ms d) (k : Nat) (hk : k < w0.heap.size + 3) : some k ≠ (Value.slice aT ts.length cT).ownBlock := fun e => by have := (h.ot.lt _ e.symm).1; omega
theorem PS.rne (h : PS w0 w E aT cT ts Ls aR cR rs Ms d) (k : Nat) (hk : k < w0.heap.size + 3) : some k ≠ (Value.slice aR rs.length cR).ownBlock := fun e => by have := (h.ow.lt _ e.symm).1; omega

/-- What t means. -/
theorem PS.tree (h : PS w0 w E aT cT ts Ls aR cR rs Ms d) : Den (d + 1) w (fun b => w0.heap.size + 3 ≤ b ∧ b < w.heap.size) ⟨2, noneB, aT, ts.length, cT⟩ (Ls.foldl altL noL) := by
  have hdt := h.dt.keep (Y := fun b => w0.heap.size + 3 ≤ b ∧ b < w.heap.size) (fun _ _ => rfl) (fun b hb => ⟨hb.1, hb.2.1⟩)
  refine .inr ⟨ts, Ls, ⟨rfl, own_max h.ot, ?_⟩, hdt.1, hdt.2, .inr (.inl ⟨rfl, fun _ => Iff.rfl⟩)⟩
  show ts.length = 0 ∨ ∃ g, aT = some ⟨g, 0, none⟩ ∧ _
  rcases h.ot.2 with ⟨h1, h2⟩ | ⟨g, cap, cur, h1, hg0, hg1, hcap, hmax, hcs, htk⟩
  · exact .inl h2
  · injection h1 with e1 e2 e3
    subst e1 e3
    have hgl := h.ot.lt g rfl
    refine .inr ⟨g, rfl, hgl, fun i hi j hj => ?_⟩
    rw [World.ownsRow.cellAt h.ot _ (by omega), trow_get ts i hi j hj]
end

theorem chg_setRow (w : World) (b : Nat) (cs : Array Value) : Chg (· = b) w (w.setRow b cs) :=
  ⟨rfl, rfl, rfl, by show _ ≤ (w.heap.modify b _).size; rw [Array.size_modify]; exact Nat.le_refl _, fun k _ hn => setRow_other w b k cs hn⟩
theorem size_setRow (w : World) (b : Nat) (cs : Array Value) : (w.setRow b cs).heap.size = w.heap.size := by show (w.heap.modify b _).size = _; rw [Array.size_modify]
theorem size_setCell (w : World) (a : Addr) (v : Value) : (w.setCell a v).heap.size = w.heap.size := by show (w.heap.modify _ _).size = _; rw [Array.size_modify]
theorem treeC_setSl (t : TV) (a : Option Addr) (n c : Nat) : (treeC t).setIfInBounds 257 (.slice a n c) = treeC { t with a := a, n := n, c := c } := by
  unfold treeC
  simp [treeL_setSl]

/-- A part with a sign behind it: its tree lies in a new block. -/
theorem den_sign {w w' : World} {X Y : Nat → Prop} {d k g c : Nat} {t : TV} {L A : Lang} (h : Den d w X t L) (hw : ∀ b, X b → w'.heap[b]? = w.heap[b]?) (hX : ∀ b, X b → Y b) (hg : Y g) (ht : TreeBlk w' g t)
    (hk : (k = 3 ∧ ∀ s, A s ↔ optL (PlusL L) s) ∨ (k = 4 ∧ ∀ s, A s ↔ PlusL L s) ∨ (k = 5 ∧ ∀ s, A s ↔ optL L s)) : Den (d + 1) w' Y ⟨k, noneB, some ⟨g, 0, none⟩, 1, c⟩ A := by
  refine .inr ⟨[t], [L], ⟨rfl, by show 1 ≤ _; decide, .inr ⟨g, rfl, hg, fun i hi j hj => ?_⟩⟩, rfl, fun i h1 h2 => ?_, .inr (.inr ⟨L, rfl, hk⟩)⟩
  · obtain rfl : i = 0 := by simpa using hi
    rw [Nat.zero_mul, Nat.zero_add, ht.cell]
    rfl
  · obtain rfl : i = 0 := by simpa using h1
    exact Den.keep hw hX d _ _ h


theorem wpList_append_tree {ops : Array Oper} {rest : List Oper} {o : Oper} {a : Act} {w : World} {Q : Exit → Act → World → Prop} (hgd : o.guard = none) (s x : Operand)
    (ho : o.op = .call { callee := .builtin .append, args := #[s, x], argTypes := #[205, 205] }) (B : Nat) (v : Value) (ts : List TV) (hs : a.eval s = v) (hown : OwnTr w B v ts)
    (g c : Nat) (p : TV) (hx : a.eval x = .slice (some ⟨g, 0, none⟩) 1 c) (hg : TreeBlk w g p) (hb : ts.length ≤ 1000) (hB : B ≤ w.heap.size)
    (h : ∀ a' c' w', OwnTr w' B (.slice a' (ts.length + 1) c') (ts ++ [p]) → w.grownBy w' v.ownBlock → ((Value.slice a' (ts.length + 1) c').ownBlock = v.ownBlock ∨ (Value.slice a' (ts.length + 1) c').ownBlock = some w.heap.size) → wpList Tryz.prog ops Q rest (a.put o.dst (.slice a' (ts.length + 1) c')) w') :
    wpList Tryz.prog ops Q (o :: rest) a w := by
  refine wpList_plain hgd fun K hK => ?_
  obtain ⟨a', c', w', hr, h2, h3, h4⟩ := run_append_tree o.type w B v ts hown g c p hg.cell hb hB
  unfold Oper.wp execOp
  simp only [ho, resolve, invoke, builtin, Sem.run_bind, Sem.run_pure, Result.andThen_ok, List.map_toArray, List.map_cons, List.map_nil, hs, hx, hr]
  exact hK _ _ (h a' c' w' h2 h3 h4)

theorem wpList_load_tree {ops : Array Oper} {rest : List Oper} {o : Oper} {a : Act} {w : World} {Q : Exit → Act → World → Prop} (hgd : o.guard = none) (x : Operand) (ho : o.op = .load 207 x) (b : Nat) (hx : a.eval x = .pointer (some ⟨b, 0, none⟩)) {t : TV} (h : TreeBlk w b t)
    (hk : wpList Tryz.prog ops Q rest (a.put o.dst (.agg (treeC t))) w) : wpList Tryz.prog ops Q (o :: rest) a w :=
  wpList_plain hgd fun _ hK => wp_load_tree x ho b hx h (hK _ _ hk)

theorem wpList_build_tree {ops : Array Oper} {rest : List Oper} {o : Oper} {a : Act} {w : World} {Q : Exit → Act → World → Prop} (hgd : o.guard = none) (x : Operand) (ho : o.op = .buildSlice 205 1 #[(0, x)]) (t : TV) (hx : a.eval x = .agg (treeC t))
    (hk : wpList Tryz.prog ops Q rest (a.put o.dst (.slice (some ⟨w.heap.size, 0, none⟩) 1 1)) (w.alloc (.cells (treeC t) 207))) : wpList Tryz.prog ops Q (o :: rest) a w := by
  obtain ⟨i0, hi, hi0, hi1, hi2⟩ := info_parts infoTree
  refine wpList_buildSlice hgd 205 207 1 #[(0, x)] ho (treeC t) i0 _ Tryz.underlying205 hi hi0 (by rw [hi1]; decide) (by rw [hi1]; decide) ?_ hk
  rw [hi1]
  have h := Go.Great.fill_whole (s := 258) (by decide) [Value.agg (treeC t)] ((Array.range (1 * 258)).map ((Value.agg (treeC (noT 0))).cells[· % (Value.agg (treeC (noT 0))).cells.size]!)) (fun v hv => by
    obtain rfl := List.mem_singleton.1 hv
    exact treeC_size t) (by simp)
  simp only [List.map_toArray, List.map_cons, List.map_nil, hx]
  refine h.trans ?_
  simp [Value.cells]

/-- What parse tells. -/
def ParE (s : ByteArray) (u : World) (e : Ending) (w' : World) : Prop :=
  (pL noL epsL s.data.toList = none ∧ ∃ t, e = .returned (.tuple #[.agg (treeC t), .string ⟨#[]⟩, .bool false])) ∨
  ∃ A s2 t, pL noL epsL s.data.toList = some (A, s2.data.toList) ∧ e = .returned (.tuple #[.agg (treeC t), .string s2, .bool true]) ∧ ∃ d, Den d w' (fun b => u.heap.size ≤ b ∧ b < w'.heap.size) t A

theorem foldl_snoc {α : Type} (f : Lang → α → Lang) (z : Lang) (l : List α) (x : α) : (l ++ [x]).foldl f z = f (l.foldl f z) x := by simp

set_option maxRecDepth 20000 in
set_option maxHeartbeats 8000000 in
theorem eparse_any (s : ByteArray) (w : World) (hs : s.size ≤ 200) (IH : ∀ s1 : ByteArray, s1.size < s.size → ParIH s1) :
    Calls Tryz.prog 173 #[.string s] w fun e w' => ParE s w e w' ∧ Below w.heap.size w w' := by
  have kz := zero_tree
  have kn := treeC_size
  have kb1 : (treeC (noT 0)).setIfInBounds 0 (.int .i64 1) = treeC (noT 1) := build_k 1
  have kb2 : (treeC (noT 0)).setIfInBounds 0 (.int .i64 2) = treeC (noT 2) := build_k 2
  have ks2 := store_last (w.alloc (.cells (treeC (noT 0)) 207)) (w.heap.size + 1) (by simp) (noT 0) (noT 2)
  have ks1 := store_last ((w.alloc (.cells (treeC (noT 0)) 207)).alloc (.cells (treeC (noT 2)) 207)) (w.heap.size + 1 + 1) (by simp) (noT 0) (noT 1)
  go_enter Tryz.func173, Tryz.ntmps173
  go_wp2_with fail
  have tz := ((TreeBlk.new w (noT 0)).alloc (.cells (treeC (noT 2)) 207)).alloc (.cells (treeC (noT 1)) 207)
  have tt := (TreeBlk.new' (w.alloc (.cells (treeC (noT 0)) 207)) (noT 2) (w.heap.size + 1) (by simp)).alloc (.cells (treeC (noT 1)) 207)
  have tr := TreeBlk.new' ((w.alloc (.cells (treeC (noT 0)) 207)).alloc (.cells (treeC (noT 2)) 207)) (noT 1) (w.heap.size + 1 + 1) (by simp)
  have hb := (((Below.refl w.heap.size w).alloc (Nat.le_refl _) (.cells (treeC (noT 0)) 207)).alloc (by simp) (.cells (treeC (noT 2)) 207)).alloc (by simp; omega) (.cells (treeC (noT 1)) 207)
  have hz : w.heap.size + 3 ≤ (((w.alloc (.cells (treeC (noT 0)) 207)).alloc (.cells (treeC (noT 2)) 207)).alloc (.cells (treeC (noT 1)) 207)).heap.size := by simp
  generalize ((w.alloc (.cells (treeC (noT 0)) 207)).alloc (.cells (treeC (noT 2)) 207)).alloc (.cells (treeC (noT 1)) 207) = W at *
  have hps : PS w W (fun _ => False) none 0 [] [] none 0 [] [] 0 := ⟨tt, tz, World.ownsRow_nil _ _ _ _, World.ownsRow_nil _ _ _ _, (fun b hb => by cases hb), (fun b e => e.elim), Dens.nil _ _ _, Dens.nil _ _ _, hb, hz⟩
  clear tt tz hb hz ks1 ks2 kb2
  go_loopw [0] (fun sv wr => ∃ (s1 : ByteArray) (aT : Option Addr) (cT : Nat) (ts : List TV) (Ls : List Lang) (aR : Option Addr) (cR : Nat) (rs : List TV) (Ms : List Lang) (d : Nat), sv = .string s1 ∧ s1.size + ts.length + rs.length ≤ s.size ∧ Hid (pL (Ls.foldl altL noL) (Ms.foldl catL epsL) s1.data.toList = pL noL epsL s.data.toList) ∧ PS w wr (fun _ => False) aT cT ts Ls aR cR rs Ms d ∧ TreeBlk wr (w.heap.size + 1 + 1) ⟨1, noneB, aR, rs.length, cR⟩) (fun sv _ => strSize sv)
  case atStart => exact ⟨s, none, 0, [], [], none, 0, [], [], 0, rfl, by simp, Lib.hid rfl, hps, tr⟩
  case round =>
    clear hps tr
    obtain ⟨s1, aT, cT, ts, Ls, aR, cR, rs, Ms, d, rfl, hsz, HI, hps, tr⟩ := hrel
    obtain ⟨wo, rfl⟩ : ∃ x, x = wr := ⟨_, rfl⟩
    have ct := hps.t.parts
    have hws := hps.sz
    by_cases h0 : s1.size = 0
    · have hp : ¬ (0 : Int) < (s1.size : Int) := by omega
      have HE := Lib.hid (pL_end (Ls.foldl altL noL) (Ms.foldl catL epsL) s1.data.toList (.inl (by rw [bytes_nil h0]; rfl)))
      clear h0
      go_wp2_with (first | (with_reducible change wpList Tryz.prog _ _ (_ :: _) _ _; refine wpList_load_tree rfl _ rfl _ rfl tr ?_) | (with_reducible change wpList Tryz.prog _ _ (_ :: _) _ _; refine wpList_build_tree rfl _ rfl _ rfl ?_) | (at_builtin; refine Hid.out ?_))
      refine Lib.hid ?_
      have hA := (Below.refl wo.heap.size wo).alloc (Nat.le_refl _) (.cells (treeC ⟨1, noneB, aR, rs.length, cR⟩) 207)
      have hps1 := hps.below hA
      refine wpList_append_tree rfl _ _ rfl (w.heap.size + 3) (.slice aT ts.length cT) ts rfl hps1.ot wo.heap.size 1 ⟨1, noneB, aR, rs.length, cR⟩ rfl (TreeBlk.new wo _) (by omega) (by simp; omega) ?_
      intro a' c' w2 ho hg hm
      have hps2 := hps1.addT ho hg hm
      have ct2 : w2.cell? ⟨w.heap.size + 1, 257, none⟩ = some (.slice aT ts.length cT) := (hps1.t.kept hg (hps1.tne _ (by omega))).parts
      have cf2 : w2.frozen? ⟨w.heap.size + 1, 257, none⟩ = false := (hps1.t.kept hg (hps1.tne _ (by omega))).frozen 257
      have tr2 := (((tr.below hA).kept hg (hps1.tne _ (by omega))).of (show (w2.setCell ⟨w.heap.size + 1, 257, none⟩ (.slice a' (ts.length + 1) c')).heap[w.heap.size + 1 + 1]? = w2.heap[w.heap.size + 1 + 1]? from (xgrown_setCell w2 (w.heap.size + 1) 257 _).block _ (by have := hg.size; simp at this; omega) (by simp)))
      clear ct hA ho hg hm
      have t3 := hps2.t
      have hd := hps2.tree
      have hlt : (ts ++ [(⟨1, noneB, aR, rs.length, cR⟩ : TV)]).length = ts.length + 1 := by simp
      rw [hlt] at t3 hd
      have ks := hps2.z.storeCells ⟨2, noneB, a', ts.length + 1, c'⟩
      have t4 := hps2.z.row ⟨2, noneB, a', ts.length + 1, c'⟩
      have hb4 := below_setRow hps2.bl w.heap.size (Nat.le_refl _) (treeC ⟨2, noneB, a', ts.length + 1, c'⟩)
      have HD : Hid (Den (d + 1 + 1) ((w2.setCell ⟨w.heap.size + 1, 257, none⟩ (.slice a' (ts.length + 1) c')).setRow w.heap.size (treeC ⟨2, noneB, a', ts.length + 1, c'⟩)) (fun b => w.heap.size ≤ b ∧ b < ((w2.setCell ⟨w.heap.size + 1, 257, none⟩ (.slice a' (ts.length + 1) c')).setRow w.heap.size (treeC ⟨2, noneB, a', ts.length + 1, c'⟩)).heap.size) ⟨2, noneB, a', ts.length + 1, c'⟩ (altL (Ls.foldl altL noL) (Ms.foldl catL epsL))) := Lib.hid (by
        rw [foldl_snoc] at hd
        exact Den.keep (fun b hb => setRow_other _ _ _ _ (by omega)) (fun b hb => ⟨by omega, by rw [size_setRow]; exact hb.2⟩) _ _ _ hd)
      clear hps hps1 hps2 tr tr2 hd hlt
      go_wp2_with (with_reducible change wpList Tryz.prog _ _ (_ :: _) _ _; refine wpList_load_tree rfl _ rfl _ rfl t3 ?_)
      exact bodyPost_ret (results_tree3 rfl _ _ _ rfl t4) rfl ⟨.inr ⟨_, s1, _, HI.out.symm.trans HE.out, rfl, _, HD.out⟩, hb4⟩
    have hp : (0 : Int) < (s1.size : Int) := by omega
    have hp2 : 0 < s1.size := by omega
    have hp1 : (1 : Int) ≤ (s1.size : Int) := by omega
    have HC := Lib.hid (bytes_cons s1 hp2)
    by_cases h41 : s1[0] = 41
    · have q41 : ((s1[0].toNat : Int) != 41) = false := bne_no (n := 41) (by decide) h41
      have HE := Lib.hid (pL_end (Ls.foldl altL noL) (Ms.foldl catL epsL) s1.data.toList (.inr (by rw [HC.out, h41]; rfl)))
      clear h41
      go_wp2_with (first | (with_reducible change wpList Tryz.prog _ _ (_ :: _) _ _; refine wpList_load_tree rfl _ rfl _ rfl tr ?_) | (with_reducible change wpList Tryz.prog _ _ (_ :: _) _ _; refine wpList_build_tree rfl _ rfl _ rfl ?_) | (at_builtin; refine Hid.out ?_))
      refine Lib.hid ?_
      have hA := (Below.refl wo.heap.size wo).alloc (Nat.le_refl _) (.cells (treeC ⟨1, noneB, aR, rs.length, cR⟩) 207)
      have hps1 := hps.below hA
      refine wpList_append_tree rfl _ _ rfl (w.heap.size + 3) (.slice aT ts.length cT) ts rfl hps1.ot wo.heap.size 1 ⟨1, noneB, aR, rs.length, cR⟩ rfl (TreeBlk.new wo _) (by omega) (by simp; omega) ?_
      intro a' c' w2 ho hg hm
      have hps2 := hps1.addT ho hg hm
      have ct2 : w2.cell? ⟨w.heap.size + 1, 257, none⟩ = some (.slice aT ts.length cT) := (hps1.t.kept hg (hps1.tne _ (by omega))).parts
      have cf2 : w2.frozen? ⟨w.heap.size + 1, 257, none⟩ = false := (hps1.t.kept hg (hps1.tne _ (by omega))).frozen 257
      have tr2 := (((tr.below hA).kept hg (hps1.tne _ (by omega))).of (show (w2.setCell ⟨w.heap.size + 1, 257, none⟩ (.slice a' (ts.length + 1) c')).heap[w.heap.size + 1 + 1]? = w2.heap[w.heap.size + 1 + 1]? from (xgrown_setCell w2 (w.heap.size + 1) 257 _).block _ (by have := hg.size; simp at this; omega) (by simp)))
      clear ct hA ho hg hm
      have t3 := hps2.t
      have hd := hps2.tree
      have hlt : (ts ++ [(⟨1, noneB, aR, rs.length, cR⟩ : TV)]).length = ts.length + 1 := by simp
      rw [hlt] at t3 hd
      have ks := hps2.z.storeCells ⟨2, noneB, a', ts.length + 1, c'⟩
      have t4 := hps2.z.row ⟨2, noneB, a', ts.length + 1, c'⟩
      have hb4 := below_setRow hps2.bl w.heap.size (Nat.le_refl _) (treeC ⟨2, noneB, a', ts.length + 1, c'⟩)
      have HD : Hid (Den (d + 1 + 1) ((w2.setCell ⟨w.heap.size + 1, 257, none⟩ (.slice a' (ts.length + 1) c')).setRow w.heap.size (treeC ⟨2, noneB, a', ts.length + 1, c'⟩)) (fun b => w.heap.size ≤ b ∧ b < ((w2.setCell ⟨w.heap.size + 1, 257, none⟩ (.slice a' (ts.length + 1) c')).setRow w.heap.size (treeC ⟨2, noneB, a', ts.length + 1, c'⟩)).heap.size) ⟨2, noneB, a', ts.length + 1, c'⟩ (altL (Ls.foldl altL noL) (Ms.foldl catL epsL))) := Lib.hid (by
        rw [foldl_snoc] at hd
        exact Den.keep (fun b hb => setRow_other _ _ _ _ (by omega)) (fun b hb => ⟨by omega, by rw [size_setRow]; exact hb.2⟩) _ _ _ hd)
      clear hps hps1 hps2 tr tr2 hd hlt
      go_wp2_with (with_reducible change wpList Tryz.prog _ _ (_ :: _) _ _; refine wpList_load_tree rfl _ rfl _ rfl t3 ?_)
      exact bodyPost_ret (results_tree3 rfl _ _ _ rfl t4) rfl ⟨.inr ⟨_, s1, _, HI.out.symm.trans HE.out, rfl, _, HD.out⟩, hb4⟩
    have q41 : ((s1[0].toNat : Int) != 41) = true := bne_yes (n := 41) (by decide) h41
    by_cases h124 : s1[0] = 124
    · have q124 : ((s1[0].toNat : Int) == 124) = true := beq_yes (n := 124) (by decide) h124
      have HB : Hid (pL ((Ls ++ [Ms.foldl catL epsL]).foldl altL noL) (([] : List Lang).foldl catL epsL) (s1.extract 1 s1.size).data.toList = pL noL epsL s.data.toList) := Lib.hid (by
        rw [foldl_snoc, ← HI.out, HC.out, h124, pL_bar]; rfl)
      have hx : (s1.extract 1 s1.size).size + 1 = s1.size := by rw [ByteArray.size_extract]; omega
      clear h124 HI HC
      go_wp2_with (first | (with_reducible change wpList Tryz.prog _ _ (_ :: _) _ _; refine wpList_load_tree rfl _ rfl _ rfl tr ?_) | (with_reducible change wpList Tryz.prog _ _ (_ :: _) _ _; refine wpList_build_tree rfl _ rfl _ rfl ?_) | (at_builtin; refine Hid.out ?_))
      refine Lib.hid ?_
      have hA := (Below.refl wo.heap.size wo).alloc (Nat.le_refl _) (.cells (treeC ⟨1, noneB, aR, rs.length, cR⟩) 207)
      have hps1 := hps.below hA
      refine wpList_append_tree rfl _ _ rfl (w.heap.size + 3) (.slice aT ts.length cT) ts rfl hps1.ot wo.heap.size 1 ⟨1, noneB, aR, rs.length, cR⟩ rfl (TreeBlk.new wo _) (by omega) (by simp; omega) ?_
      intro a' c' w2 ho hg hm
      have hps2 := hps1.addT ho hg hm
      have ct2 : w2.cell? ⟨w.heap.size + 1, 257, none⟩ = some (.slice aT ts.length cT) := (hps1.t.kept hg (hps1.tne _ (by omega))).parts
      have cf2 : w2.frozen? ⟨w.heap.size + 1, 257, none⟩ = false := (hps1.t.kept hg (hps1.tne _ (by omega))).frozen 257
      have tr2 := (((tr.below hA).kept hg (hps1.tne _ (by omega))).of (show (w2.setCell ⟨w.heap.size + 1, 257, none⟩ (.slice a' (ts.length + 1) c')).heap[w.heap.size + 1 + 1]? = w2.heap[w.heap.size + 1 + 1]? from (xgrown_setCell w2 (w.heap.size + 1) 257 _).block _ (by have := hg.size; simp at this; omega) (by simp)))
      clear ct hA ho hg hm
      have ks := tr2.storeCells (noT 1)
      have tr3 := tr2.row (noT 1)
      have hps3 := hps2.chg (chg_setRow (w2.setCell ⟨w.heap.size + 1, 257, none⟩ (.slice a' (ts.length + 1) c')) (w.heap.size + 1 + 1) (treeC (noT 1))) (fun b e => .inl e)
      clear hps hps1 hps2 tr tr2
      generalize World.setRow _ _ _ = W3 at *
      go_wp2
      go_roundw
      case rel => exact ⟨_, a', c', _, _, none, 0, [], [], d + 1, rfl, by simp; omega, HB, hps3, tr3⟩
      case measure => simp [strSize]; omega
    have q124 : ((s1[0].toNat : Int) == 124) = false := beq_no (n := 124) (by decide) h124
    have hrow : rowEnd s1.data.toList = false := by
      rw [HC.out]
      simp [rowEnd, h124, h41]
    have hat := eatom_ref s1 wo (by omega) hp2 (IH _ (by rw [ByteArray.size_extract]; omega)) (fun l A l' h => pLoop_len h)
    cases hq : pAtom (pL noL epsL) s1.data.toList with
    | none =>
      have HA := Lib.hid (hat.1 hq)
      have HF : Hid (pL noL epsL s.data.toList = none) := Lib.hid (by
        rw [← HI.out]
        exact pL_part_no hrow (by unfold pP pPart; rw [hq]))
      clear hat hq hrow HI HC h124 h41 IH
      go_wp2_with (go_at_call 189; refine HA.out.mono ?_; rintro e w1 ⟨⟨t, rfl⟩, q1⟩; refine Hid.out ?_)
      refine Lib.hid ?_
      have hb2 : Below wo.heap.size wo (w1.alloc (.cells (treeC t) 207)) := q1.alloc q1.size _
      have hps2 := hps.below hb2
      have ks0 := store_last w1 w1.heap.size rfl (noT 0) t
      have t2 := hps2.t
      have ks := hps2.z.storeCells ⟨2, noneB, aT, ts.length, cT⟩
      have t4 := hps2.z.row ⟨2, noneB, aT, ts.length, cT⟩
      have hb4 := below_setRow hps2.bl w.heap.size (Nat.le_refl _) (treeC ⟨2, noneB, aT, ts.length, cT⟩)
      clear hps hps2 tr ct hb2
      go_wp2_with (with_reducible change wpList Tryz.prog _ _ (_ :: _) _ _; refine wpList_load_tree rfl _ rfl _ rfl t2 ?_)
      exact bodyPost_ret (results_tree3 rfl _ _ _ rfl t4) rfl ⟨.inl ⟨HF.out, _, rfl⟩, hb4⟩
    | some q =>
      obtain ⟨A, l2⟩ := q
      have hl2 := pAtom_len (fun l A l' h => pLoop_len h) hq
      obtain ⟨s2, rfl⟩ : ∃ s2 : ByteArray, s2.data.toList = l2 := ⟨⟨l2.toArray⟩, rfl⟩
      have hs2 : s2.size < s1.size := by simpa using hl2
      have HA := Lib.hid (hat.2 A s2 hq)
      have HF : Hid (pL (Ls.foldl altL noL) (Ms.foldl catL epsL) s1.data.toList = pL (Ls.foldl altL noL) (catL (Ms.foldl catL epsL) (pSuf A s2.data.toList).1) (pSuf A s2.data.toList).2) := Lib.hid (pL_part hrow (by unfold pP pPart; rw [hq]))
      rw [HI.out] at HF
      clear hat hq hrow HI HC h124 h41 IH hl2
      go_wp2_with (go_at_call 189; refine HA.out.mono ?_; rintro e w1 ⟨⟨t, rfl, dA, hdA⟩, q1⟩; refine Hid.out ?_)
      refine Lib.hid ?_
      have hb2 : Below wo.heap.size wo (w1.alloc (.cells (treeC t) 207)) := q1.alloc q1.size _
      have hps2 := hps.apart hb2 w1.heap.size q1.size
      have tr2 := tr.below hb2
      have ta2 := TreeBlk.new w1 t
      have hws1 := q1.size
      have hdB : Den dA (w1.alloc (.cells (treeC t) 207)) (Frz (w.heap.size + 3) (w1.alloc (.cells (treeC t) 207)) (· = w1.heap.size) (.slice aT ts.length cT) (.slice aR rs.length cR)) t A := by
        refine Den.keep (fun b hb => Below.heap_alloc w1 _ b hb.2) (fun b hb => ⟨by omega, by simp; omega, (fun e => by omega), (fun e => ?_), (fun e => ?_)⟩) _ _ _ hdA
        · have := (hps.ot.lt b e).2; omega
        · have := (hps.ow.lt b e).2; omega
      have hwz : w1.heap.size < (w1.alloc (.cells (treeC t) 207)).heap.size := by simp
      have ks0 := store_last w1 w1.heap.size rfl (noT 0) t
      clear hps tr ct hdA HA
      go_wp2_with fail
      generalize w1.alloc (.cells (treeC t) 207) = W2 at *
      go_loopw [0] (fun sv wr => ∃ (s3 : ByteArray) (a : TV) (L : Lang) (dL : Nat), sv = .string s3 ∧ s3.size ≤ s2.size ∧ Hid (pSuf L s3.data.toList = pSuf A s2.data.toList) ∧ TreeBlk wr w1.heap.size a ∧ Den dL wr (Frz (w.heap.size + 3) wr (· = w1.heap.size) (.slice aT ts.length cT) (.slice aR rs.length cR)) a L ∧ PS w wr (· = w1.heap.size) aT cT ts Ls aR cR rs Ms d ∧ TreeBlk wr (w.heap.size + 1 + 1) ⟨1, noneB, aR, rs.length, cR⟩) (fun sv _ => strSize sv)
      case atStart => exact ⟨s2, t, A, dA, rfl, Nat.le_refl _, Lib.hid rfl, ta2, hdB, hps2, tr2⟩
      case round =>
        clear ta2 hdB hps2 tr2 ks0
        obtain ⟨s3, a, L, dL, rfl, hs3, HS, ta, hda, hp3, tr3⟩ := hrel
        obtain ⟨wz, rfl⟩ : ∃ x, x = wr := ⟨_, rfl⟩
        have cr := tr3.parts
        have hta := ta.lt
        have hne1 : w.heap.size + 3 ≤ w1.heap.size := (hp3.ex _ rfl).1
        have hzz := hp3.sz
        by_cases z0 : s3.size = 0
        · have z1 : ¬ (0 : Int) < (s3.size : Int) := by omega
          have HP : Hid (plainHead s3.data.toList) := Lib.hid (by rw [bytes_nil z0]; exact ⟨by simp, by simp, by simp⟩)
          clear z0
          have HG : Hid (pL (Ls.foldl altL noL) ((Ms ++ [L]).foldl catL epsL) s3.data.toList = pL noL epsL s.data.toList) := Lib.hid (by
            rw [foldl_snoc, HF.out, ← HS.out, pSuf_stop L _ HP.out])
          clear HP HS HF
          go_wp2_with (first | (with_reducible change wpList Tryz.prog _ _ (_ :: _) _ _; refine wpList_load_tree rfl _ rfl _ rfl ta ?_) | (with_reducible change wpList Tryz.prog _ _ (_ :: _) _ _; refine wpList_build_tree rfl _ rfl _ rfl ?_) | (at_builtin; refine Hid.out ?_))
          refine Lib.hid ?_
          have hA := (Below.refl wz.heap.size wz).alloc (Nat.le_refl _) (.cells (treeC a) 207)
          have hp4 := (hp3.le (Nat.le_max_left d dL)).below hA
          have hd4 : Den (max d dL) (wz.alloc (.cells (treeC a) 207)) (Frz (w.heap.size + 3) (wz.alloc (.cells (treeC a) 207)) (· = w1.heap.size) (.slice aT ts.length cT) (.slice aR rs.length cR)) a L :=
            Den.keep (fun b hb => Below.heap_alloc wz _ b hb.2.1) (fun b hb => ⟨hb.1, by have := hb.2.1; simp; omega, hb.2.2⟩) _ _ _ (hda.le (Nat.le_max_right d dL))
          refine wpList_append_tree rfl _ _ rfl (w.heap.size + 3) (.slice aR rs.length cR) rs rfl hp4.ow wz.heap.size 1 a rfl (TreeBlk.new wz _) (by omega) (by simp; omega) ?_
          intro a' c' w2 ho hg hm
          have hp5 := hp4.addR hd4 (fun b e => by subst e; simp; omega) ho hg hm
          have tr4 := (tr3.below hA).kept hg (hp4.rne _ (by omega))
          have cr2 : w2.cell? ⟨w.heap.size + 1 + 1, 257, none⟩ = some (.slice aR rs.length cR) := tr4.parts
          have cf2 : w2.frozen? ⟨w.heap.size + 1 + 1, 257, none⟩ = false := tr4.frozen 257
          have tr5 : TreeBlk (w2.setCell ⟨w.heap.size + 1 + 1, 257, none⟩ (.slice a' (rs.length + 1) c')) (w.heap.size + 1 + 1) ⟨1, noneB, a', (rs ++ [a]).length, c'⟩ := by
            rw [List.length_append, List.length_singleton]
            exact tr4.setSl a' (rs.length + 1) c'
          clear cr hA ho hg hm hp3 hp4 tr3 tr4 hd4 hda ta
          go_wp2
          go_roundw
          case rel => exact ⟨s3, aT, cT, ts, Ls, a', c', _, _, _, rfl, by simp; omega, HG, hp5.drop, tr5⟩
          case measure => simp [strSize]; omega
        have z1 : (0 : Int) < (s3.size : Int) := by omega
        have z2 : 0 < s3.size := by omega
        have z3 : (1 : Int) ≤ (s3.size : Int) := by omega
        have HD := Lib.hid (bytes_cons s3 z2)
        have hx : (s3.extract 1 s3.size).size + 1 = s3.size := by rw [ByteArray.size_extract]; omega
        by_cases h42 : s3[0] = 42
        · have q42 : ((s3[0].toNat : Int) == 42) = true := beq_yes (n := 42) (by decide) h42
          have q43 : ((s3[0].toNat : Int) == 43) = false := beq_no (n := 43) (by decide) (by rw [h42]; decide)
          have q63 : ((s3[0].toNat : Int) == 63) = false := beq_no (n := 63) (by decide) (by rw [h42]; decide)
          have HT : Hid (pSuf (optL (PlusL L)) (s3.extract 1 s3.size).data.toList = pSuf A s2.data.toList) := Lib.hid (by rw [← HS.out, HD.out, h42]; rfl)
          clear h42 HD HS
          have kbk : (treeC (noT 0)).setIfInBounds 0 (.int .i64 3) = treeC (noT 3) := build_k 3
          have ksl : (treeC (noT 3)).setIfInBounds 257 (.slice (some ⟨wz.heap.size, 0, none⟩) 1 1) = treeC ⟨3, noneB, some ⟨wz.heap.size, 0, none⟩, 1, 1⟩ := treeC_setSl _ _ _ _
          have ta4 := ta.alloc (.cells (treeC a) 207)
          have ks := ta4.storeCells ⟨3, noneB, some ⟨wz.heap.size, 0, none⟩, 1, 1⟩
          have ta5 := ta4.row ⟨3, noneB, some ⟨wz.heap.size, 0, none⟩, 1, 1⟩
          have hA := (Below.refl wz.heap.size wz).alloc (Nat.le_refl _) (.cells (treeC a) 207)
          have hp5 := (hp3.below hA).chg (chg_setRow (wz.alloc (.cells (treeC a) 207)) w1.heap.size (treeC ⟨3, noneB, some ⟨wz.heap.size, 0, none⟩, 1, 1⟩)) (fun b e => .inr e)
          have tr5 := (tr3.below hA).of (setRow_other (wz.alloc (.cells (treeC a) 207)) w1.heap.size (w.heap.size + 1 + 1) (treeC ⟨3, noneB, some ⟨wz.heap.size, 0, none⟩, 1, 1⟩) (by omega))
          have hsz5 : ((wz.alloc (.cells (treeC a) 207)).setRow w1.heap.size (treeC ⟨3, noneB, some ⟨wz.heap.size, 0, none⟩, 1, 1⟩)).heap.size = wz.heap.size + 1 := by rw [size_setRow]; simp
          have hd5 : Den (dL + 1) ((wz.alloc (.cells (treeC a) 207)).setRow w1.heap.size (treeC ⟨3, noneB, some ⟨wz.heap.size, 0, none⟩, 1, 1⟩)) (Frz (w.heap.size + 3) ((wz.alloc (.cells (treeC a) 207)).setRow w1.heap.size (treeC ⟨3, noneB, some ⟨wz.heap.size, 0, none⟩, 1, 1⟩)) (· = w1.heap.size) (.slice aT ts.length cT) (.slice aR rs.length cR)) ⟨3, noneB, some ⟨wz.heap.size, 0, none⟩, 1, 1⟩ (optL (PlusL L)) := by
            refine den_sign hda (fun b hb => ?_) (fun b hb => ⟨hb.1, by rw [hsz5]; have := hb.2.1; omega, hb.2.2⟩) ⟨by omega, by rw [hsz5]; omega, (fun e => by omega), (fun e => ?_), (fun e => ?_)⟩ ?_ (.inl ⟨rfl, fun _ => Iff.rfl⟩)
            · rw [setRow_other _ _ _ _ (show b ≠ w1.heap.size from hb.2.2.1)]
              exact Below.heap_alloc wz _ b hb.2.1
            · have := (hp3.ot.lt _ e).2; omega
            · have := (hp3.ow.lt _ e).2; omega
            · exact (TreeBlk.new wz a).of (setRow_other _ _ _ _ (by omega))
          clear hp3 tr3 hda cr hA ta4
          go_wp2_with (first | (with_reducible change wpList Tryz.prog _ _ (_ :: _) _ _; refine wpList_load_tree rfl _ rfl _ rfl ta ?_) | (with_reducible change wpList Tryz.prog _ _ (_ :: _) _ _; refine wpList_build_tree rfl _ rfl _ rfl ?_))
          generalize World.setRow _ _ _ = W5 at *
          try go_wp2
          go_roundw
          case rel => exact ⟨_, _, _, _, rfl, by omega, HT, ta5, hd5, hp5, tr5⟩
          case measure => simp [strSize]; omega
        have q42 : ((s3[0].toNat : Int) == 42) = false := beq_no (n := 42) (by decide) h42
        by_cases h43 : s3[0] = 43
        · have q43 : ((s3[0].toNat : Int) == 43) = true := beq_yes (n := 43) (by decide) h43
          have q63 : ((s3[0].toNat : Int) == 63) = false := beq_no (n := 63) (by decide) (by rw [h43]; decide)
          have HT : Hid (pSuf (PlusL L) (s3.extract 1 s3.size).data.toList = pSuf A s2.data.toList) := Lib.hid (by rw [← HS.out, HD.out, h43]; rfl)
          clear h42 h43 HD HS
          have kbk : (treeC (noT 0)).setIfInBounds 0 (.int .i64 4) = treeC (noT 4) := build_k 4
          have ksl : (treeC (noT 4)).setIfInBounds 257 (.slice (some ⟨wz.heap.size, 0, none⟩) 1 1) = treeC ⟨4, noneB, some ⟨wz.heap.size, 0, none⟩, 1, 1⟩ := treeC_setSl _ _ _ _
          have ta4 := ta.alloc (.cells (treeC a) 207)
          have ks := ta4.storeCells ⟨4, noneB, some ⟨wz.heap.size, 0, none⟩, 1, 1⟩
          have ta5 := ta4.row ⟨4, noneB, some ⟨wz.heap.size, 0, none⟩, 1, 1⟩
          have hA := (Below.refl wz.heap.size wz).alloc (Nat.le_refl _) (.cells (treeC a) 207)
          have hp5 := (hp3.below hA).chg (chg_setRow (wz.alloc (.cells (treeC a) 207)) w1.heap.size (treeC ⟨4, noneB, some ⟨wz.heap.size, 0, none⟩, 1, 1⟩)) (fun b e => .inr e)
          have tr5 := (tr3.below hA).of (setRow_other (wz.alloc (.cells (treeC a) 207)) w1.heap.size (w.heap.size + 1 + 1) (treeC ⟨4, noneB, some ⟨wz.heap.size, 0, none⟩, 1, 1⟩) (by omega))
          have hsz5 : ((wz.alloc (.cells (treeC a) 207)).setRow w1.heap.size (treeC ⟨4, noneB, some ⟨wz.heap.size, 0, none⟩, 1, 1⟩)).heap.size = wz.heap.size + 1 := by rw [size_setRow]; simp
          have hd5 : Den (dL + 1) ((wz.alloc (.cells (treeC a) 207)).setRow w1.heap.size (treeC ⟨4, noneB, some ⟨wz.heap.size, 0, none⟩, 1, 1⟩)) (Frz (w.heap.size + 3) ((wz.alloc (.cells (treeC a) 207)).setRow w1.heap.size (treeC ⟨4, noneB, some ⟨wz.heap.size, 0, none⟩, 1, 1⟩)) (· = w1.heap.size) (.slice aT ts.length cT) (.slice aR rs.length cR)) ⟨4, noneB, some ⟨wz.heap.size, 0, none⟩, 1, 1⟩ (PlusL L) := by
            refine den_sign hda (fun b hb => ?_) (fun b hb => ⟨hb.1, by rw [hsz5]; have := hb.2.1; omega, hb.2.2⟩) ⟨by omega, by rw [hsz5]; omega, (fun e => by omega), (fun e => ?_), (fun e => ?_)⟩ ?_ (.inr (.inl ⟨rfl, fun _ => Iff.rfl⟩))
            · rw [setRow_other _ _ _ _ (show b ≠ w1.heap.size from hb.2.2.1)]
              exact Below.heap_alloc wz _ b hb.2.1
            · have := (hp3.ot.lt _ e).2; omega
            · have := (hp3.ow.lt _ e).2; omega
            · exact (TreeBlk.new wz a).of (setRow_other _ _ _ _ (by omega))
          clear hp3 tr3 hda cr hA ta4
          go_wp2_with (first | (with_reducible change wpList Tryz.prog _ _ (_ :: _) _ _; refine wpList_load_tree rfl _ rfl _ rfl ta ?_) | (with_reducible change wpList Tryz.prog _ _ (_ :: _) _ _; refine wpList_build_tree rfl _ rfl _ rfl ?_))
          generalize World.setRow _ _ _ = W5 at *
          try go_wp2
          go_roundw
          case rel => exact ⟨_, _, _, _, rfl, by omega, HT, ta5, hd5, hp5, tr5⟩
          case measure => simp [strSize]; omega
        have q43 : ((s3[0].toNat : Int) == 43) = false := beq_no (n := 43) (by decide) h43
        by_cases h63 : s3[0] = 63
        · have q63 : ((s3[0].toNat : Int) == 63) = true := beq_yes (n := 63) (by decide) h63
          have HT : Hid (pSuf (optL L) (s3.extract 1 s3.size).data.toList = pSuf A s2.data.toList) := Lib.hid (by rw [← HS.out, HD.out, h63]; rfl)
          clear h42 h43 h63 HD HS
          have kbk : (treeC (noT 0)).setIfInBounds 0 (.int .i64 5) = treeC (noT 5) := build_k 5
          have ksl : (treeC (noT 5)).setIfInBounds 257 (.slice (some ⟨wz.heap.size, 0, none⟩) 1 1) = treeC ⟨5, noneB, some ⟨wz.heap.size, 0, none⟩, 1, 1⟩ := treeC_setSl _ _ _ _
          have ta4 := ta.alloc (.cells (treeC a) 207)
          have ks := ta4.storeCells ⟨5, noneB, some ⟨wz.heap.size, 0, none⟩, 1, 1⟩
          have ta5 := ta4.row ⟨5, noneB, some ⟨wz.heap.size, 0, none⟩, 1, 1⟩
          have hA := (Below.refl wz.heap.size wz).alloc (Nat.le_refl _) (.cells (treeC a) 207)
          have hp5 := (hp3.below hA).chg (chg_setRow (wz.alloc (.cells (treeC a) 207)) w1.heap.size (treeC ⟨5, noneB, some ⟨wz.heap.size, 0, none⟩, 1, 1⟩)) (fun b e => .inr e)
          have tr5 := (tr3.below hA).of (setRow_other (wz.alloc (.cells (treeC a) 207)) w1.heap.size (w.heap.size + 1 + 1) (treeC ⟨5, noneB, some ⟨wz.heap.size, 0, none⟩, 1, 1⟩) (by omega))
          have hsz5 : ((wz.alloc (.cells (treeC a) 207)).setRow w1.heap.size (treeC ⟨5, noneB, some ⟨wz.heap.size, 0, none⟩, 1, 1⟩)).heap.size = wz.heap.size + 1 := by rw [size_setRow]; simp
          have hd5 : Den (dL + 1) ((wz.alloc (.cells (treeC a) 207)).setRow w1.heap.size (treeC ⟨5, noneB, some ⟨wz.heap.size, 0, none⟩, 1, 1⟩)) (Frz (w.heap.size + 3) ((wz.alloc (.cells (treeC a) 207)).setRow w1.heap.size (treeC ⟨5, noneB, some ⟨wz.heap.size, 0, none⟩, 1, 1⟩)) (· = w1.heap.size) (.slice aT ts.length cT) (.slice aR rs.length cR)) ⟨5, noneB, some ⟨wz.heap.size, 0, none⟩, 1, 1⟩ (optL L) := by
            refine den_sign hda (fun b hb => ?_) (fun b hb => ⟨hb.1, by rw [hsz5]; have := hb.2.1; omega, hb.2.2⟩) ⟨by omega, by rw [hsz5]; omega, (fun e => by omega), (fun e => ?_), (fun e => ?_)⟩ ?_ (.inr (.inr ⟨rfl, fun _ => Iff.rfl⟩))
            · rw [setRow_other _ _ _ _ (show b ≠ w1.heap.size from hb.2.2.1)]
              exact Below.heap_alloc wz _ b hb.2.1
            · have := (hp3.ot.lt _ e).2; omega
            · have := (hp3.ow.lt _ e).2; omega
            · exact (TreeBlk.new wz a).of (setRow_other _ _ _ _ (by omega))
          clear hp3 tr3 hda cr hA ta4
          go_wp2_with (first | (with_reducible change wpList Tryz.prog _ _ (_ :: _) _ _; refine wpList_load_tree rfl _ rfl _ rfl ta ?_) | (with_reducible change wpList Tryz.prog _ _ (_ :: _) _ _; refine wpList_build_tree rfl _ rfl _ rfl ?_))
          generalize World.setRow _ _ _ = W5 at *
          try go_wp2
          go_roundw
          case rel => exact ⟨_, _, _, _, rfl, by omega, HT, ta5, hd5, hp5, tr5⟩
          case measure => simp [strSize]; omega
        have q63 : ((s3[0].toNat : Int) == 63) = false := beq_no (n := 63) (by decide) h63
        have HP : Hid (plainHead s3.data.toList) := Lib.hid (by rw [HD.out]; exact ⟨by simpa using h42, by simpa using h43, by simpa using h63⟩)
        clear h42 h43 h63 HD
        have HG : Hid (pL (Ls.foldl altL noL) ((Ms ++ [L]).foldl catL epsL) s3.data.toList = pL noL epsL s.data.toList) := Lib.hid (by
          rw [foldl_snoc, HF.out, ← HS.out, pSuf_stop L _ HP.out])
        clear HP HS HF
        go_wp2_with (first | (with_reducible change wpList Tryz.prog _ _ (_ :: _) _ _; refine wpList_load_tree rfl _ rfl _ rfl ta ?_) | (with_reducible change wpList Tryz.prog _ _ (_ :: _) _ _; refine wpList_build_tree rfl _ rfl _ rfl ?_) | (at_builtin; refine Hid.out ?_))
        refine Lib.hid ?_
        have hA := (Below.refl wz.heap.size wz).alloc (Nat.le_refl _) (.cells (treeC a) 207)
        have hp4 := (hp3.le (Nat.le_max_left d dL)).below hA
        have hd4 : Den (max d dL) (wz.alloc (.cells (treeC a) 207)) (Frz (w.heap.size + 3) (wz.alloc (.cells (treeC a) 207)) (· = w1.heap.size) (.slice aT ts.length cT) (.slice aR rs.length cR)) a L :=
          Den.keep (fun b hb => Below.heap_alloc wz _ b hb.2.1) (fun b hb => ⟨hb.1, by have := hb.2.1; simp; omega, hb.2.2⟩) _ _ _ (hda.le (Nat.le_max_right d dL))
        refine wpList_append_tree rfl _ _ rfl (w.heap.size + 3) (.slice aR rs.length cR) rs rfl hp4.ow wz.heap.size 1 a rfl (TreeBlk.new wz _) (by omega) (by simp; omega) ?_
        intro a' c' w2 ho hg hm
        have hp5 := hp4.addR hd4 (fun b e => by subst e; simp; omega) ho hg hm
        have tr4 := (tr3.below hA).kept hg (hp4.rne _ (by omega))
        have cr2 : w2.cell? ⟨w.heap.size + 1 + 1, 257, none⟩ = some (.slice aR rs.length cR) := tr4.parts
        have cf2 : w2.frozen? ⟨w.heap.size + 1 + 1, 257, none⟩ = false := tr4.frozen 257
        have tr5 : TreeBlk (w2.setCell ⟨w.heap.size + 1 + 1, 257, none⟩ (.slice a' (rs.length + 1) c')) (w.heap.size + 1 + 1) ⟨1, noneB, a', (rs ++ [a]).length, c'⟩ := by
          rw [List.length_append, List.length_singleton]
          exact tr4.setSl a' (rs.length + 1) c'
        clear cr hA ho hg hm hp3 hp4 tr3 tr4 hd4 hda ta
        go_wp2
        go_roundw
        case rel => exact ⟨s3, aT, cT, ts, Ls, a', c', _, _, _, rfl, by simp; omega, HG, hp5.drop, tr5⟩
        case measure => simp [strSize]; omega


theorem par_ih : ∀ (n : Nat) (s : ByteArray), s.size = n → n ≤ 200 → ParIH s := by
  intro n
  induction n using Nat.strongRecOn with
  | ind n ih =>
    intro s hs hn
    have H := fun u => eparse_any s u (by omega) (fun s1 h1 => ih s1.size (by omega) s1 rfl (by omega))
    refine ⟨fun hq u => (H u).mono fun e w' ⟨hE, hb⟩ => ?_, fun A s2 hq u => (H u).mono fun e w' ⟨hE, hb⟩ => ?_⟩
    · rcases hE with ⟨-, h2⟩ | ⟨A, s2, t, h1, -⟩
      · exact ⟨h2, hb⟩
      · rw [hq] at h1; cases h1
    · rcases hE with ⟨h1, -⟩ | ⟨A', s2', t, h1, h2, h3⟩
      · rw [hq] at h1; cases h1
      · rw [hq] at h1
        injection h1 with h1
        injection h1 with e1 e2
        obtain rfl := ba_ext e2
        subst e1
        exact ⟨⟨t, h2, h3⟩, hb⟩

theorem results_tree2 {fn : Func} {p u : Tmp} (h : fn.results = #[.cell p 207, .tmp u]) (tmps : Array Value) (w : World) (b : Nat) {t : TV} (hp : tmps.getD p undef = .pointer (some ⟨b, 0, none⟩)) (ht : TreeBlk w b t) :
    (results fn tmps).run Tryz.prog w = .ok (.tuple #[.agg (treeC t), tmps.getD u undef]) w := by
  have hp' : tmps[p]?.getD undef = .pointer (some ⟨b, 0, none⟩) := by simpa using hp
  simp [results, h, hp', asAddr, ht.load]

/-- Parse tells an error. -/
def PErr (s : ByteArray) (w : World) (E : Int) : Prop := Calls Tryz.prog 154 #[.string s] w fun e w' => (∃ t, e = .returned (.tuple #[.agg (treeC t), .int .i64 E])) ∧ Below w.heap.size w w'

set_option maxRecDepth 20000 in
set_option maxHeartbeats 2000000 in
theorem eParse_long (s : ByteArray) (w : World) (h : 64 < s.size) : PErr s w 5 := by
  unfold PErr
  have kz := zero_tree
  have kn := treeC_size
  have hl : (64 : Int) < (s.size : Int) := by omega
  have tA := TreeBlk.new w (noT 0)
  have hbA := (Below.refl w.heap.size w).alloc (Nat.le_refl _) (.cells (treeC (noT 0)) 207)
  have ks := tA.storeCells (noT 0)
  have t3 := tA.row (noT 0)
  have hb3 := below_setRow hbA w.heap.size (Nat.le_refl _) (treeC (noT 0))
  clear h tA hbA
  go_enter Tryz.func154, Tryz.ntmps154
  go_wp2
  exact bodyPost_ret (results_tree2 rfl _ _ _ rfl t3) rfl ⟨⟨_, rfl⟩, hb3⟩

set_option maxRecDepth 20000 in
set_option maxHeartbeats 2000000 in
theorem eParse_no (s : ByteArray) (w : World) (h : s.size ≤ 64) (hq : pL noL epsL s.data.toList = none) : PErr s w 9 := by
  unfold PErr
  have HC := Lib.hid ((par_ih s.size s rfl (by omega)).1 hq)
  have kz := zero_tree
  have kn := treeC_size
  have hl : ¬ (64 : Int) < (s.size : Int) := by omega
  have tA := TreeBlk.new w (noT 0)
  have hbA := (Below.refl w.heap.size w).alloc (Nat.le_refl _) (.cells (treeC (noT 0)) 207)
  clear h hq
  go_enter Tryz.func154, Tryz.ntmps154
  go_wp2_with (go_at_call 173; refine (HC.out _).mono ?_; rintro e w1 ⟨⟨t, rfl⟩, q1⟩; refine Hid.out ?_)
  refine Lib.hid ?_
  have t1 := (tA.below q1).alloc (.cells (treeC t) 207)
  have hb1 := (hbA.trans (q1.mono hbA.size)).alloc (Nat.le_trans hbA.size q1.size) (.cells (treeC t) 207)
  have ks0 := store_last w1 w1.heap.size rfl (noT 0) t
  have ks := t1.storeCells (noT 0)
  have t3 := t1.row (noT 0)
  have hb3 := below_setRow hb1 w.heap.size (Nat.le_refl _) (treeC (noT 0))
  clear t1 hb1 tA hbA q1 HC
  go_wp2
  exact bodyPost_ret (results_tree2 rfl _ _ _ rfl t3) rfl ⟨⟨_, rfl⟩, hb3⟩

set_option maxRecDepth 20000 in
set_option maxHeartbeats 2000000 in
theorem eParse_more (s s2 : ByteArray) (w : World) (h : s.size ≤ 64) (A : Lang) (hq : pL noL epsL s.data.toList = some (A, s2.data.toList)) (h2 : 0 < s2.size) : PErr s w 9 := by
  unfold PErr
  have HC := Lib.hid ((par_ih s.size s rfl (by omega)).2 A s2 hq)
  have kz := zero_tree
  have kn := treeC_size
  have hl : ¬ (64 : Int) < (s.size : Int) := by omega
  have hne := isEmpty_no h2
  have tA := TreeBlk.new w (noT 0)
  have hbA := (Below.refl w.heap.size w).alloc (Nat.le_refl _) (.cells (treeC (noT 0)) 207)
  clear h hq
  go_enter Tryz.func154, Tryz.ntmps154
  go_wp2_with (go_at_call 173; refine (HC.out _).mono ?_; rintro e w1 ⟨⟨t, rfl, -⟩, q1⟩; refine Hid.out ?_)
  refine Lib.hid ?_
  have t1 := (tA.below q1).alloc (.cells (treeC t) 207)
  have hb1 := (hbA.trans (q1.mono hbA.size)).alloc (Nat.le_trans hbA.size q1.size) (.cells (treeC t) 207)
  have ks0 := store_last w1 w1.heap.size rfl (noT 0) t
  have ks := t1.storeCells (noT 0)
  have t3 := t1.row (noT 0)
  have hb3 := below_setRow hb1 w.heap.size (Nat.le_refl _) (treeC (noT 0))
  clear t1 hb1 tA hbA q1 HC
  go_wp2
  exact bodyPost_ret (results_tree2 rfl _ _ _ rfl t3) rfl ⟨⟨_, rfl⟩, hb3⟩

set_option maxRecDepth 20000 in
set_option maxHeartbeats 2000000 in
theorem eParse_ok (s : ByteArray) (w : World) (h : s.size ≤ 64) (A : Lang) (hq : pParse s.data.toList = some A) :
    Calls Tryz.prog 154 #[.string s] w fun e w' => (∃ t, e = .returned (.tuple #[.agg (treeC t), .int .i64 0]) ∧ ∃ d, Den d w' (fun b => w.heap.size ≤ b ∧ b < w'.heap.size) t A) ∧ Below w.heap.size w w' := by
  have HC := Lib.hid ((par_ih s.size s rfl (by omega)).2 A ⟨#[]⟩ (parse_some.1 hq))
  have kz := zero_tree
  have kn := treeC_size
  have hl : ¬ (64 : Int) < (s.size : Int) := by omega
  have tA := TreeBlk.new w (noT 0)
  have hbA := (Below.refl w.heap.size w).alloc (Nat.le_refl _) (.cells (treeC (noT 0)) 207)
  clear h hq
  go_enter Tryz.func154, Tryz.ntmps154
  go_wp2_with (go_at_call 173; refine (HC.out _).mono ?_; rintro e w1 ⟨⟨t, rfl, d, hd⟩, q1⟩; refine Hid.out ?_)
  refine Lib.hid ?_
  have t1 := (tA.below q1).alloc (.cells (treeC t) 207)
  have hb1 := (hbA.trans (q1.mono hbA.size)).alloc (Nat.le_trans hbA.size q1.size) (.cells (treeC t) 207)
  have ks0 := store_last w1 w1.heap.size rfl (noT 0) t
  have t2 := TreeBlk.new w1 t
  have ks := t1.storeCells t
  have t3 := t1.row t
  have hb3 := below_setRow hb1 w.heap.size (Nat.le_refl _) (treeC t)
  have hA1 : (w.alloc (.cells (treeC (noT 0)) 207)).heap.size = w.heap.size + 1 := by simp
  have HD : Hid (Den d ((w1.alloc (.cells (treeC t) 207)).setRow w.heap.size (treeC t)) (fun b => w.heap.size ≤ b ∧ b < ((w1.alloc (.cells (treeC t) 207)).setRow w.heap.size (treeC t)).heap.size) t A) := Lib.hid (by
    refine Den.keep (fun b hb => ?_) (fun b hb => ?_) _ _ _ hd
    · rw [hA1] at hb
      rw [setRow_other _ _ _ _ (by omega)]
      exact Below.heap_alloc w1 _ b hb.2
    · rw [hA1] at hb
      refine ⟨by omega, ?_⟩
      rw [size_setRow]
      simp
      omega)
  clear hd t1 hb1 tA hbA hA1 q1 HC
  go_wp2_with (with_reducible change wpList Tryz.prog _ _ (_ :: _) _ _; refine wpList_load_tree rfl _ rfl _ rfl t2 ?_)
  exact bodyPost_ret (results_tree2 rfl _ _ _ rfl t3) rfl ⟨⟨_, rfl, _, HD.out⟩, hb3⟩

theorem eParse_err (s : ByteArray) (w : World) (he : errE s.data.toList ≠ 0) : PErr s w (errE s.data.toList) := by
  have hl : s.data.toList.length = s.size := by simp
  unfold errE at he ⊢
  rw [hl] at he ⊢
  by_cases h1 : 64 < s.size
  · rw [if_pos h1]
    exact eParse_long s w h1
  · rw [if_neg h1] at he ⊢
    cases hp : pParse s.data.toList with
    | some A => rw [hp] at he; exact absurd rfl he
    | none =>
      show PErr s w 9
      cases hq : pL noL epsL s.data.toList with
      | none => exact eParse_no s w (by omega) hq
      | some q =>
        obtain ⟨A, l2⟩ := q
        have hne : l2 ≠ [] := fun e => by
          rw [parse_pL, hq] at hp
          simp only [e, if_true] at hp
          cases hp
        refine eParse_more s ⟨l2.toArray⟩ w (by omega) A hq ?_
        show 0 < l2.toArray.size
        simpa using List.length_pos_iff.2 hne

end Go.Proofs.YtcngifkoopcmeaaGreatDoor
