/-
  Tick of package probe.
-/
import Derived.Test.YtnoconampcemoaaO8
namespace Go.Proofs.Ytnoconampcemoaa
open Go Go.RowKit

theorem cellsMx_flat {w : World} {b o : Nat} : ∀ {ps : List Mem}, (∀ i (hi : i < ps.length), ∀ j v, (encM ps[i])[j]? = some v → w.cell? ⟨b, o + i * 3 + j, none⟩ = some v) → ∀ j u, (cellsMx ps)[j]? = some u → w.cell? ⟨b, o + j, none⟩ = some u := by
  intro ps hc j u hj
  have hlt : j < ps.length * 3 := by
    have := (List.getElem?_eq_some_iff.1 hj).1
    rwa [cellsMx_len] at this
  have e : j = j / 3 * 3 + j % 3 := by omega
  have hi : j / 3 < ps.length := by omega
  have hl3 : j % 3 < (encM ps[j / 3]).length := by show _ < 3; omega
  have hg : (encM ps[j / 3])[j % 3]? = some (encM ps[j / 3])[j % 3] := List.getElem?_eq_getElem hl3
  have h1 := cellsMx_get ps (j / 3) hi (j % 3) _ hg
  rw [← e, hj] at h1
  obtain rfl := Option.some.inj h1
  have h2 := hc (j / 3) hi (j % 3) _ hg
  rw [show o + j = o + j / 3 * 3 + j % 3 by omega]
  exact h2
theorem cellsMx_one (ps : List Mem) : ∀ u ∈ cellsMx ps, u.oneCell' = true := fun u hu => by
  unfold cellsMx at hu
  obtain ⟨m, -, hm⟩ := List.mem_flatMap.1 hu
  simp only [encM, List.mem_cons, List.not_mem_nil, or_false] at hm
  rcases hm with rfl | rfl | rfl <;> rfl
theorem wpList_append_mems (w : World) {ops : Array Oper} {rest : List Oper} {o : Oper} {act : Act} {Q : Exit → Act → World → Prop} (hgd : o.guard = none) (s x : Operand)
    (ho : o.op = .call { callee := .builtin .append, args := #[s, x], argTypes := #[33, 33] }) (B : Nat) (v : Value) (rs : List Mem) (hs : act.eval s = v) (hown : OwnMx w B v rs)
    (a : Option Addr) (n c : Nat) (ps : List Mem) (hx : act.eval x = .slice a n c) (hn : n = ps.length) (hat : MemsAt w a ps) (hc0 : a = none → c = 0)
    (hb : rs.length + ps.length ≤ 100000) (hB : B ≤ w.heap.size)
    (h : ∀ v' w', OwnMx w' B v' (rs ++ ps) → w.grownBy w' v.ownBlock → wpList Try.prog ops Q rest (act.put o.dst v') w') : wpList Try.prog ops Q (o :: rest) act w := by
  subst hn
  obtain ⟨i0, hi, hi0, hi1, hi2⟩ := infoM
  cases a with
  | none =>
    have h0 : ps.length = 0 := by
      by_cases hp : 0 < ps.length
      · obtain ⟨b, o, he, -⟩ := hat hp
        cases he
      · omega
    obtain rfl := List.eq_nil_of_length_eq_zero h0
    obtain rfl := hc0 rfl
    refine wpList_append_own_none hgd s x 33 ho B 43 i0 3 Try.underlying33 hi v rs.length (cellsMx rs) hs hown hx ?_
    exact h v w (by simpa using hown) (World.grownBy.refl w _)
  | some q =>
    refine wpList_append_own w hgd s x 33 ho B 43 i0 _ 3 16 Try.underlying33 hi hi0 hi1 hi2 rfl (by decide) v rs.length (cellsMx rs) hs hown q ps.length c (cellsMx ps) hx (cellsMx_len ps) (fun j u hj => ?_) (cellsMx_one ps) (by unfold maxLen; omega) (by omega) hB (fun v' w' h1 h2 _ => h v' w' ?_ h2)
    · have hp : 0 < ps.length := by
        have := (List.getElem?_eq_some_iff.1 hj).1
        rw [cellsMx_len] at this
        omega
      obtain ⟨b, o, he, -, hc⟩ := hat hp
      obtain rfl := Option.some.inj he
      rw [Go.WideShapes.add_plain]
      exact cellsMx_flat hc j u hj
    · unfold OwnMx
      rw [cellsMx_append, List.length_append]
      exact h1
theorem Grown2.then {w a a' : World} {b c : Nat} (h : Grown2 w a b c) (q : Below w.heap.size a a') : Grown2 w a' b c :=
  ⟨q.os.trans h.os, q.tape.trans h.tape, q.output.trans h.output, Nat.le_trans h.size q.size, fun k hk hb hc => (q.block k hk).trans (h.block k hk hb hc)⟩
def TickPost (b d : Nat) (K : Tk) (w : World) (e : Ending) (w' : World) : Prop :=
  ∃ a n c a2 n2 c2, e = .returned (.tuple #[.slice a n c, .slice a2 n2 c2]) ∧ OutsAt w' w.heap.size a n c K.o ∧ OwnMx w' w.heap.size (.slice a2 n2 c2) K.n ∧ PbBlk w' b K.P ∧ TabBlk w' d K.T ∧ Grown2 w w' b d
theorem pbTick_nil (d : Value) (now q : Int) (w : World) : Calls Try.prog 15 #[.pointer none, .int .i64 now, .int .u32 q, d] w fun e w' => e = .returned (.tuple #[.slice none 0 0, .slice none 0 0]) ∧ w' = w := by
  go_enter Try.func15, Try.ntmps15
  go_wp2
  go_ret2
  exact ⟨rfl, rfl⟩
theorem pbTick_nilT (b : Nat) (now q : Int) (w : World) : Calls Try.prog 15 #[.pointer (some ⟨b, 0, none⟩), .int .i64 now, .int .u32 q, .pointer none] w fun e w' => e = .returned (.tuple #[.slice none 0 0, .slice none 0 0]) ∧ w' = w := by
  go_enter Try.func15, Try.ntmps15
  go_wp2
  go_ret2
  exact ⟨rfl, rfl⟩
theorem pbTick_out (b d : Nat) (now q : Int) (w : World) (hn : timeOk now = false) : Calls Try.prog 15 #[.pointer (some ⟨b, 0, none⟩), .int .i64 now, .int .u32 q, .pointer (some ⟨d, 0, none⟩)] w fun e w' => e = .returned (.tuple #[.slice none 0 0, .slice none 0 0]) ∧ w' = w := by
  have HT := Lib.hid (pbisTime_any now w)
  rw [hn] at HT
  go_enter Try.func15, Try.ntmps15
  go_wp2_with (go_at_call 33; refine HT.out.mono ?_; rintro e w1 ⟨rfl, rfl⟩)
  go_ret2
  exact ⟨rfl, rfl⟩
theorem giveP_qo (P : Pb) (T : Tb) (now : Int) : (giveP P T now).P.qo = false ∧ (giveP P T now).P.due = P.due ∧ (giveP P T now).o = [] := by
  unfold giveP
  split
  · exact ⟨rfl, rfl, rfl⟩
  · unfold watchP
    split <;> exact ⟨rfl, rfl, rfl⟩
theorem giveP_ok {P : Pb} {T : Tb} (hT : TbOk T) (hP : PbOk P) (now : Int) : TbOk (giveP P T now).T ∧ PbOk (giveP P T now).P := by
  unfold giveP
  split
  · exact ⟨hT, hP.shut⟩
  · rename_i m hf
    have := hT.ok _ m hf
    exact ⟨hearB_ok hT (by simp only; omega) (by simp), hP.shut.watch _ _⟩
theorem giveP_len (P : Pb) (T : Tb) (now : Int) : (giveP P T now).n.length ≤ 1 := by
  unfold giveP
  split
  · exact Nat.zero_le _
  · exact tellM_len _ _
theorem askP_n (P : Pb) (T : Tb) (now : Int) (q : Nat) : (askP P T now q).n = [] ∧ (askP P T now q).T = T := by
  unfold askP
  split <;> exact ⟨rfl, rfl⟩
theorem openP_shut {P : Pb} {T : Tb} {now : Int} {q : Nat} (h : P.qo = false) : openP P T now q = ⟨P, T, [], []⟩ := by unfold openP; rw [if_pos h]
theorem openP_give {P : Pb} {T : Tb} {now : Int} {q : Nat} (h : P.qo = true) (h2 : P.per ≤ now - P.qt) : openP P T now q = giveP P T now := by unfold openP; rw [if_neg (by rw [h]; decide), if_pos h2]
theorem openP_help {P : Pb} {T : Tb} {now : Int} {q : Nat} (h : P.qo = true) (h2 : ¬ P.per ≤ now - P.qt) (h3 : P.tmo ≤ now - P.qt) (h4 : P.qh = false) : openP P T now q = helpP P T q := by unfold openP; rw [if_neg (by rw [h]; decide), if_neg h2, if_pos ⟨h3, h4⟩]
theorem openP_wait {P : Pb} {T : Tb} {now : Int} {q : Nat} (h : P.qo = true) (h2 : ¬ P.per ≤ now - P.qt) (h3 : ¬ (P.tmo ≤ now - P.qt ∧ P.qh = false)) : openP P T now q = ⟨P, T, [], []⟩ := by unfold openP; rw [if_neg (by rw [h]; decide), if_neg h2, if_neg h3]
theorem nextP_ask {P : Pb} {T : Tb} {now : Int} {q : Nat} (h : P.qo = false) (h2 : P.due ≤ now) : nextP P T now q = askP P T now q := by unfold nextP; rw [if_pos ⟨h, h2⟩]
theorem nextP_no {P : Pb} {T : Tb} {now : Int} {q : Nat} (h : ¬ (P.qo = false ∧ P.due ≤ now)) : nextP P T now q = ⟨P, T, [], []⟩ := by unfold nextP; rw [if_neg h]
theorem tickP_eq {P : Pb} {T : Tb} {now : Int} {q : Nat} {A B : Tk} (hA : openP (buryP P T now) (mergeB T (goneL P T now)) now q = A) (hB : nextP A.P A.T now q = B) : tickP P T now q = ⟨B.P, B.T, A.o ++ B.o, mergeM T (goneL P T now) ++ A.n⟩ := by
  unfold tickP
  simp only []
  rw [hA, hB]
set_option maxRecDepth 20000 in
set_option maxHeartbeats 8000000 in
theorem pbTick_shut_ask (b d : Nat) (P : Pb) (T : Tb) (now : Int) (q : Nat) (hq : q < 4294967296) (w : World) (hP : PbBlk w b P) (hT : TabBlk w d T) (hok : PbOk P) (htk : TbOk T) (hnow : timeOk now = true) (hbd : b ≠ d) (h1 : P.qo = false) (hd : P.due ≤ now) :
    Calls Try.prog 15 #[.pointer (some ⟨b, 0, none⟩), .int .i64 now, .int .u32 (q : Int), .pointer (some ⟨d, 0, none⟩)] w (TickPost b d (tickP P T now q) w) := by
  have HT := Lib.hid (pbisTime_any now w)
  rw [hnow] at HT
  have HBu := Lib.hid (pbbury_any b d P T now w hP hT hok htk hnow hbd)
  have HBL := Lib.hid hP.lt
  have HDL := Lib.hid hT.lt
  have HBD := Lib.hid hbd
  have hok1 : PbOk (buryP P T now) := hok.buryTo T now 64
  have htk1 : TbOk (mergeB T (goneL P T now)) := mergeB_ok htk (goneTo_fit htk)
  have hn2 := (timeOk_iff now).1 hnow
  have kw : wrap64 (now - P.qt) = now - P.qt := by have := hok.qt; unfold wrap64; omega
  have hA : openP (buryP P T now) (mergeB T (goneL P T now)) now q = ⟨buryP P T now, mergeB T (goneL P T now), [], []⟩ := openP_shut (P := buryP P T now) h1
  have hK : tickP P T now q = ⟨(askP (buryP P T now) (mergeB T (goneL P T now)) now q).P, (mergeB T (goneL P T now)), (askP (buryP P T now) (mergeB T (goneL P T now)) now q).o, mergeM T (goneL P T now) ++ []⟩ := by
    rw [tickP_eq hA (nextP_ask (P := (buryP P T now)) (T := (mergeB T (goneL P T now))) h1 (hd))]
    rw [(askP_n _ _ _ _).2]
    rfl
  rw [hK]
  clear hK hA
  have HAs := Lib.hid (fun (u : World) (hu : PbBlk u b (buryP P T now)) (hv : TabBlk u d (mergeB T (goneL P T now))) => pbask_any b d (buryP P T now) (mergeB T (goneL P T now)) now q hq u hu hv hok1 htk1 hnow)
  have HNl : Hid ((mergeM T (goneL P T now)).length ≤ 64) := Lib.hid (Nat.le_trans (mergeM_len _ _) (goneTo_len P T now 64))
  have b0 : (buryP P T now).per = P.per := rfl
  have b1 : (buryP P T now).tmo = P.tmo := rfl
  have b2 : (buryP P T now).qt = P.qt := rfl
  have b3 : (buryP P T now).qo = P.qo := rfl
  have b4 : (buryP P T now).qh = P.qh := rfl
  have b5 : (buryP P T now).due = P.due := rfl
  generalize mergeM T (goneL P T now) = N1 at *
  generalize mergeB T (goneL P T now) = T1 at *
  generalize buryP P T now = P1 at *
  clear hP hT hok htk hnow hbd hn2 hok1 htk1 hq
  go_enter Try.func15, Try.ntmps15
  go_wp2_with (go_at_call 33; refine HT.out.mono ?_; rintro e w0 ⟨rfl, hw0⟩; obtain rfl := hw0.symm; refine Hid.out ?_)
  refine Lib.hid ?_
  go_wp2_with (go_at_call 34; refine HBu.out.mono ?_; rintro e w1 ⟨a1, n1, c1, rfl, o1, p1, t1, g1⟩; replace o1 := Lib.hid o1; replace p1 := Lib.hid p1; replace t1 := Lib.hid t1; replace g1 := Lib.hid g1; refine Hid.out ?_)
  refine Lib.hid ?_
  clear HBu HT
  try dsimp only at o1 p1 t1
  obtain ⟨c0, c1', c2, c3, c4, c5, c6, c7, c8⟩ := p1.out.at
  rw [b0] at c1'
  rw [b1] at c2
  rw [b2] at c5
  rw [b3, h1] at c6
  rw [b5] at c8
  have HA := Lib.hid (HAs.out _ p1.out t1.out)
  clear HAs
  go_wp2_with (go_at_call 37; refine HA.out.mono ?_; rintro e w4 ⟨a4, n4, k4, rfl, o4, p4, g4⟩; replace o4 := Lib.hid o4; replace p4 := Lib.hid p4; replace g4 := Lib.hid g4; refine Hid.out ?_)
  refine Lib.hid ?_
  go_wp2
  go_ret2
  have hz := g1.out.size
  refine ⟨_, _, _, _, _, _, rfl, o4.out.base hz, ?_, p4.out, t1.out.kept g4.out (by have := HBD.out; simp; omega), g1.out.trans (Grown2.one g4.out)⟩
  simpa using (o1.out.turn g4.out HBL.out)
set_option maxRecDepth 20000 in
set_option maxHeartbeats 8000000 in
theorem pbTick_shut_no (b d : Nat) (P : Pb) (T : Tb) (now : Int) (q : Nat) (_hq : q < 4294967296) (w : World) (hP : PbBlk w b P) (hT : TabBlk w d T) (hok : PbOk P) (htk : TbOk T) (hnow : timeOk now = true) (hbd : b ≠ d) (h1 : P.qo = false) (hd : ¬ P.due ≤ now) :
    Calls Try.prog 15 #[.pointer (some ⟨b, 0, none⟩), .int .i64 now, .int .u32 (q : Int), .pointer (some ⟨d, 0, none⟩)] w (TickPost b d (tickP P T now q) w) := by
  have HT := Lib.hid (pbisTime_any now w)
  rw [hnow] at HT
  have HBu := Lib.hid (pbbury_any b d P T now w hP hT hok htk hnow hbd)
  have HBL := Lib.hid hP.lt
  have HDL := Lib.hid hT.lt
  have HBD := Lib.hid hbd
  have hok1 : PbOk (buryP P T now) := hok.buryTo T now 64
  have htk1 : TbOk (mergeB T (goneL P T now)) := mergeB_ok htk (goneTo_fit htk)
  have hn2 := (timeOk_iff now).1 hnow
  have kw : wrap64 (now - P.qt) = now - P.qt := by have := hok.qt; unfold wrap64; omega
  have hA : openP (buryP P T now) (mergeB T (goneL P T now)) now q = ⟨buryP P T now, mergeB T (goneL P T now), [], []⟩ := openP_shut (P := buryP P T now) h1
  have hK : tickP P T now q = ⟨(buryP P T now), (mergeB T (goneL P T now)), [], mergeM T (goneL P T now) ++ []⟩ := by
    rw [tickP_eq hA (nextP_no (P := (buryP P T now)) (T := (mergeB T (goneL P T now))) (fun h => hd (h.2)))]
    rfl
  rw [hK]
  clear hK hA
  have HNl : Hid ((mergeM T (goneL P T now)).length ≤ 64) := Lib.hid (Nat.le_trans (mergeM_len _ _) (goneTo_len P T now 64))
  have b0 : (buryP P T now).per = P.per := rfl
  have b1 : (buryP P T now).tmo = P.tmo := rfl
  have b2 : (buryP P T now).qt = P.qt := rfl
  have b3 : (buryP P T now).qo = P.qo := rfl
  have b4 : (buryP P T now).qh = P.qh := rfl
  have b5 : (buryP P T now).due = P.due := rfl
  generalize mergeM T (goneL P T now) = N1 at *
  generalize mergeB T (goneL P T now) = T1 at *
  generalize buryP P T now = P1 at *
  clear hP hT hok htk hnow hbd hn2 hok1 htk1 _hq
  go_enter Try.func15, Try.ntmps15
  go_wp2_with (go_at_call 33; refine HT.out.mono ?_; rintro e w0 ⟨rfl, hw0⟩; obtain rfl := hw0.symm; refine Hid.out ?_)
  refine Lib.hid ?_
  go_wp2_with (go_at_call 34; refine HBu.out.mono ?_; rintro e w1 ⟨a1, n1, c1, rfl, o1, p1, t1, g1⟩; replace o1 := Lib.hid o1; replace p1 := Lib.hid p1; replace t1 := Lib.hid t1; replace g1 := Lib.hid g1; refine Hid.out ?_)
  refine Lib.hid ?_
  clear HBu HT
  try dsimp only at o1 p1 t1
  obtain ⟨c0, c1', c2, c3, c4, c5, c6, c7, c8⟩ := p1.out.at
  rw [b0] at c1'
  rw [b1] at c2
  rw [b2] at c5
  rw [b3, h1] at c6
  rw [b5] at c8
  go_wp2
  go_ret2
  exact ⟨_, _, _, _, _, _, rfl, OutsAt.nil _ _, by simpa using o1.out, p1.out, t1.out, g1.out⟩
set_option maxRecDepth 20000 in
set_option maxHeartbeats 8000000 in
theorem pbTick_give_ask (b d : Nat) (P : Pb) (T : Tb) (now : Int) (q : Nat) (hq : q < 4294967296) (w : World) (hP : PbBlk w b P) (hT : TabBlk w d T) (hok : PbOk P) (htk : TbOk T) (hnow : timeOk now = true) (hbd : b ≠ d) (h1 : P.qo = true) (h2 : P.per ≤ now - P.qt) (hd : P.due ≤ now) :
    Calls Try.prog 15 #[.pointer (some ⟨b, 0, none⟩), .int .i64 now, .int .u32 (q : Int), .pointer (some ⟨d, 0, none⟩)] w (TickPost b d (tickP P T now q) w) := by
  have HT := Lib.hid (pbisTime_any now w)
  rw [hnow] at HT
  have HBu := Lib.hid (pbbury_any b d P T now w hP hT hok htk hnow hbd)
  have HBL := Lib.hid hP.lt
  have HDL := Lib.hid hT.lt
  have HBD := Lib.hid hbd
  have hok1 : PbOk (buryP P T now) := hok.buryTo T now 64
  have htk1 : TbOk (mergeB T (goneL P T now)) := mergeB_ok htk (goneTo_fit htk)
  have hn2 := (timeOk_iff now).1 hnow
  have kw : wrap64 (now - P.qt) = now - P.qt := by have := hok.qt; unfold wrap64; omega
  have hA : openP (buryP P T now) (mergeB T (goneL P T now)) now q = giveP (buryP P T now) (mergeB T (goneL P T now)) now := openP_give (P := buryP P T now) h1 h2
  obtain ⟨hg1, hg2, hg3⟩ := giveP_qo (buryP P T now) (mergeB T (goneL P T now)) now
  obtain ⟨hgt, hgp⟩ := giveP_ok htk1 hok1 now
  have hgl := giveP_len (buryP P T now) (mergeB T (goneL P T now)) now
  have hK : tickP P T now q = ⟨(askP (giveP (buryP P T now) (mergeB T (goneL P T now)) now).P (giveP (buryP P T now) (mergeB T (goneL P T now)) now).T now q).P, (giveP (buryP P T now) (mergeB T (goneL P T now)) now).T, (askP (giveP (buryP P T now) (mergeB T (goneL P T now)) now).P (giveP (buryP P T now) (mergeB T (goneL P T now)) now).T now q).o, mergeM T (goneL P T now) ++ (giveP (buryP P T now) (mergeB T (goneL P T now)) now).n⟩ := by
    rw [tickP_eq hA (nextP_ask (P := (giveP (buryP P T now) (mergeB T (goneL P T now)) now).P) (T := (giveP (buryP P T now) (mergeB T (goneL P T now)) now).T) hg1 (by rw [hg2]; exact hd))]
    rw [(askP_n _ _ _ _).2]
    rw [hg3]; rfl
  rw [hK]
  clear hK hA
  have HGi := Lib.hid (fun (u : World) (hu : PbBlk u b (buryP P T now)) (hv : TabBlk u d (mergeB T (goneL P T now))) => pbgiveUp_any b d (buryP P T now) (mergeB T (goneL P T now)) now u hu hv hok1 htk1 hbd)
  have HAs := Lib.hid (fun (u : World) (hu : PbBlk u b (giveP (buryP P T now) (mergeB T (goneL P T now)) now).P) (hv : TabBlk u d (giveP (buryP P T now) (mergeB T (goneL P T now)) now).T) => pbask_any b d (giveP (buryP P T now) (mergeB T (goneL P T now)) now).P (giveP (buryP P T now) (mergeB T (goneL P T now)) now).T now q hq u hu hv hgp hgt hnow)
  have HNl : Hid ((mergeM T (goneL P T now)).length ≤ 64) := Lib.hid (Nat.le_trans (mergeM_len _ _) (goneTo_len P T now 64))
  have b0 : (buryP P T now).per = P.per := rfl
  have b1 : (buryP P T now).tmo = P.tmo := rfl
  have b2 : (buryP P T now).qt = P.qt := rfl
  have b3 : (buryP P T now).qo = P.qo := rfl
  have b4 : (buryP P T now).qh = P.qh := rfl
  have b5 : (buryP P T now).due = P.due := rfl
  rw [b5] at hg2
  generalize mergeM T (goneL P T now) = N1 at *
  generalize mergeB T (goneL P T now) = T1 at *
  generalize buryP P T now = P1 at *
  clear hP hT hok htk hnow hbd hn2 hok1 htk1 hq
  clear hgt hgp
  generalize giveP P1 T1 now = K at *
  obtain ⟨KP, KT, Ko, Kn⟩ := K
  dsimp only at *
  have HGl := Lib.hid hgl
  clear hgl hg3
  go_enter Try.func15, Try.ntmps15
  go_wp2_with (go_at_call 33; refine HT.out.mono ?_; rintro e w0 ⟨rfl, hw0⟩; obtain rfl := hw0.symm; refine Hid.out ?_)
  refine Lib.hid ?_
  go_wp2_with (go_at_call 34; refine HBu.out.mono ?_; rintro e w1 ⟨a1, n1, c1, rfl, o1, p1, t1, g1⟩; replace o1 := Lib.hid o1; replace p1 := Lib.hid p1; replace t1 := Lib.hid t1; replace g1 := Lib.hid g1; refine Hid.out ?_)
  refine Lib.hid ?_
  clear HBu HT
  try dsimp only at o1 p1 t1
  obtain ⟨c0, c1', c2, c3, c4, c5, c6, c7, c8⟩ := p1.out.at
  rw [b0] at c1'
  rw [b1] at c2
  rw [b2] at c5
  rw [b3, h1] at c6
  rw [b5] at c8
  have HG := Lib.hid (HGi.out _ p1.out t1.out)
  clear HGi
  go_wp2_with (go_at_call 35; refine HG.out.mono ?_; rintro e w2 ⟨a2, n2, k2, rfl, o2, p2, t2, g2⟩; replace o2 := Lib.hid o2; replace p2 := Lib.hid p2; replace t2 := Lib.hid t2; replace g2 := Lib.hid g2; refine Hid.out ?_)
  refine Lib.hid ?_
  try dsimp only at o2 p2 t2
  have HF2 : Hid (n2 = Kn.length ∧ MemsAt w2 a2 Kn ∧ (a2 = none → k2 = 0)) := Lib.hid (by
    obtain ⟨x, y, e, h5, -, h6⟩ := o2.out.form
    simp only [Value.slice.injEq] at e
    obtain ⟨rfl, rfl, rfl⟩ := e
    exact ⟨rfl, h6, h5⟩)
  have HO2 : Hid (OwnMx w2 w.heap.size (.slice a1 n1 c1) N1) := Lib.hid (o1.out.past2 g2.out HBL.out HDL.out)
  have HG2 : Hid (Grown2 w w2 b d) := Lib.hid (g1.out.trans g2.out)
  have HZ : Hid (∀ j, (Value.slice a1 n1 c1).ownBlock = some j → w.heap.size ≤ j) := Lib.hid (fun j hj => (World.ownsRow.lt HO2.out j hj).1)
  clear c0 c1' c2 c3 c4 c5 c6 c7 c8 o2 o1 p1 t1 g1 g2 HG
  go_wp2_with (at_builtin; refine wpList_append_mems _ rfl _ _ rfl w.heap.size _ N1 rfl HO2.out a2 n2 k2 Kn rfl HF2.out.1 HF2.out.2.1 HF2.out.2.2 (by have := HNl.out; have := HGl.out; omega) HG2.out.size ?_; refine Hid.out ?_)
  refine Lib.hid ?_
  intro v3 w3 hown3 hg3
  obtain ⟨a3, c3, rfl, -, -, -⟩ := hown3.form
  have s3 : Below w.heap.size w2 w3 := (Below.refl w.heap.size w2).grown hg3 HG2.out.size HZ.out
  have p3 := Lib.hid (p2.out.below s3 HBL.out)
  have t3 := Lib.hid (t2.out.below s3 HDL.out)
  have g3 := Lib.hid (HG2.out.then s3)
  have o3 := Lib.hid hown3
  clear hown3 hg3 s3 HZ HO2 HF2 HG2 p2 t2
  generalize (N1 ++ Kn).length = n3 at *
  obtain ⟨c0, c1', c2, c3', c4, c5, c6, c7, c8⟩ := p3.out.at
  rw [hg1] at c6
  rw [hg2] at c8
  have HA := Lib.hid (HAs.out _ p3.out t3.out)
  clear HAs
  go_wp2_with (go_at_call 37; refine HA.out.mono ?_; rintro e w4 ⟨a4, n4, k4, rfl, o4, p4, g4⟩; replace o4 := Lib.hid o4; replace p4 := Lib.hid p4; replace g4 := Lib.hid g4; refine Hid.out ?_)
  refine Lib.hid ?_
  go_wp2
  go_ret2
  have hz := g3.out.size
  refine ⟨_, _, _, _, _, _, rfl, o4.out.base hz, ?_, p4.out, t3.out.kept g4.out (by have := HBD.out; simp; omega), g3.out.trans (Grown2.one g4.out)⟩
  exact (o3.out.turn g4.out HBL.out)
set_option maxRecDepth 20000 in
set_option maxHeartbeats 8000000 in
theorem pbTick_give_no (b d : Nat) (P : Pb) (T : Tb) (now : Int) (q : Nat) (_hq : q < 4294967296) (w : World) (hP : PbBlk w b P) (hT : TabBlk w d T) (hok : PbOk P) (htk : TbOk T) (hnow : timeOk now = true) (hbd : b ≠ d) (h1 : P.qo = true) (h2 : P.per ≤ now - P.qt) (hd : ¬ P.due ≤ now) :
    Calls Try.prog 15 #[.pointer (some ⟨b, 0, none⟩), .int .i64 now, .int .u32 (q : Int), .pointer (some ⟨d, 0, none⟩)] w (TickPost b d (tickP P T now q) w) := by
  have HT := Lib.hid (pbisTime_any now w)
  rw [hnow] at HT
  have HBu := Lib.hid (pbbury_any b d P T now w hP hT hok htk hnow hbd)
  have HBL := Lib.hid hP.lt
  have HDL := Lib.hid hT.lt
  have HBD := Lib.hid hbd
  have hok1 : PbOk (buryP P T now) := hok.buryTo T now 64
  have htk1 : TbOk (mergeB T (goneL P T now)) := mergeB_ok htk (goneTo_fit htk)
  have hn2 := (timeOk_iff now).1 hnow
  have kw : wrap64 (now - P.qt) = now - P.qt := by have := hok.qt; unfold wrap64; omega
  have hA : openP (buryP P T now) (mergeB T (goneL P T now)) now q = giveP (buryP P T now) (mergeB T (goneL P T now)) now := openP_give (P := buryP P T now) h1 h2
  obtain ⟨hg1, hg2, hg3⟩ := giveP_qo (buryP P T now) (mergeB T (goneL P T now)) now
  obtain ⟨hgt, hgp⟩ := giveP_ok htk1 hok1 now
  have hgl := giveP_len (buryP P T now) (mergeB T (goneL P T now)) now
  have hK : tickP P T now q = ⟨(giveP (buryP P T now) (mergeB T (goneL P T now)) now).P, (giveP (buryP P T now) (mergeB T (goneL P T now)) now).T, [], mergeM T (goneL P T now) ++ (giveP (buryP P T now) (mergeB T (goneL P T now)) now).n⟩ := by
    rw [tickP_eq hA (nextP_no (P := (giveP (buryP P T now) (mergeB T (goneL P T now)) now).P) (T := (giveP (buryP P T now) (mergeB T (goneL P T now)) now).T) (fun h => hd (by have := h.2; rw [hg2] at this; exact this)))]
    rw [hg3]; rfl
  rw [hK]
  clear hK hA
  have HGi := Lib.hid (fun (u : World) (hu : PbBlk u b (buryP P T now)) (hv : TabBlk u d (mergeB T (goneL P T now))) => pbgiveUp_any b d (buryP P T now) (mergeB T (goneL P T now)) now u hu hv hok1 htk1 hbd)
  have HNl : Hid ((mergeM T (goneL P T now)).length ≤ 64) := Lib.hid (Nat.le_trans (mergeM_len _ _) (goneTo_len P T now 64))
  have b0 : (buryP P T now).per = P.per := rfl
  have b1 : (buryP P T now).tmo = P.tmo := rfl
  have b2 : (buryP P T now).qt = P.qt := rfl
  have b3 : (buryP P T now).qo = P.qo := rfl
  have b4 : (buryP P T now).qh = P.qh := rfl
  have b5 : (buryP P T now).due = P.due := rfl
  rw [b5] at hg2
  generalize mergeM T (goneL P T now) = N1 at *
  generalize mergeB T (goneL P T now) = T1 at *
  generalize buryP P T now = P1 at *
  clear hP hT hok htk hnow hbd hn2 hok1 htk1 _hq
  clear hgt hgp
  generalize giveP P1 T1 now = K at *
  obtain ⟨KP, KT, Ko, Kn⟩ := K
  dsimp only at *
  have HGl := Lib.hid hgl
  clear hgl hg3
  go_enter Try.func15, Try.ntmps15
  go_wp2_with (go_at_call 33; refine HT.out.mono ?_; rintro e w0 ⟨rfl, hw0⟩; obtain rfl := hw0.symm; refine Hid.out ?_)
  refine Lib.hid ?_
  go_wp2_with (go_at_call 34; refine HBu.out.mono ?_; rintro e w1 ⟨a1, n1, c1, rfl, o1, p1, t1, g1⟩; replace o1 := Lib.hid o1; replace p1 := Lib.hid p1; replace t1 := Lib.hid t1; replace g1 := Lib.hid g1; refine Hid.out ?_)
  refine Lib.hid ?_
  clear HBu HT
  try dsimp only at o1 p1 t1
  obtain ⟨c0, c1', c2, c3, c4, c5, c6, c7, c8⟩ := p1.out.at
  rw [b0] at c1'
  rw [b1] at c2
  rw [b2] at c5
  rw [b3, h1] at c6
  rw [b5] at c8
  have HG := Lib.hid (HGi.out _ p1.out t1.out)
  clear HGi
  go_wp2_with (go_at_call 35; refine HG.out.mono ?_; rintro e w2 ⟨a2, n2, k2, rfl, o2, p2, t2, g2⟩; replace o2 := Lib.hid o2; replace p2 := Lib.hid p2; replace t2 := Lib.hid t2; replace g2 := Lib.hid g2; refine Hid.out ?_)
  refine Lib.hid ?_
  try dsimp only at o2 p2 t2
  have HF2 : Hid (n2 = Kn.length ∧ MemsAt w2 a2 Kn ∧ (a2 = none → k2 = 0)) := Lib.hid (by
    obtain ⟨x, y, e, h5, -, h6⟩ := o2.out.form
    simp only [Value.slice.injEq] at e
    obtain ⟨rfl, rfl, rfl⟩ := e
    exact ⟨rfl, h6, h5⟩)
  have HO2 : Hid (OwnMx w2 w.heap.size (.slice a1 n1 c1) N1) := Lib.hid (o1.out.past2 g2.out HBL.out HDL.out)
  have HG2 : Hid (Grown2 w w2 b d) := Lib.hid (g1.out.trans g2.out)
  have HZ : Hid (∀ j, (Value.slice a1 n1 c1).ownBlock = some j → w.heap.size ≤ j) := Lib.hid (fun j hj => (World.ownsRow.lt HO2.out j hj).1)
  clear c0 c1' c2 c3 c4 c5 c6 c7 c8 o2 o1 p1 t1 g1 g2 HG
  go_wp2_with (at_builtin; refine wpList_append_mems _ rfl _ _ rfl w.heap.size _ N1 rfl HO2.out a2 n2 k2 Kn rfl HF2.out.1 HF2.out.2.1 HF2.out.2.2 (by have := HNl.out; have := HGl.out; omega) HG2.out.size ?_; refine Hid.out ?_)
  refine Lib.hid ?_
  intro v3 w3 hown3 hg3
  obtain ⟨a3, c3, rfl, -, -, -⟩ := hown3.form
  have s3 : Below w.heap.size w2 w3 := (Below.refl w.heap.size w2).grown hg3 HG2.out.size HZ.out
  have p3 := Lib.hid (p2.out.below s3 HBL.out)
  have t3 := Lib.hid (t2.out.below s3 HDL.out)
  have g3 := Lib.hid (HG2.out.then s3)
  have o3 := Lib.hid hown3
  clear hown3 hg3 s3 HZ HO2 HF2 HG2 p2 t2
  generalize (N1 ++ Kn).length = n3 at *
  obtain ⟨c0, c1', c2, c3', c4, c5, c6, c7, c8⟩ := p3.out.at
  rw [hg1] at c6
  rw [hg2] at c8
  go_wp2
  go_ret2
  exact ⟨_, _, _, _, _, _, rfl, OutsAt.nil _ _, o3.out, p3.out, t3.out, g3.out⟩
set_option maxRecDepth 20000 in
set_option maxHeartbeats 8000000 in
theorem pbTick_help (b d : Nat) (P : Pb) (T : Tb) (now : Int) (q : Nat) (hq : q < 4294967296) (w : World) (hP : PbBlk w b P) (hT : TabBlk w d T) (hok : PbOk P) (htk : TbOk T) (hnow : timeOk now = true) (hbd : b ≠ d) (h1 : P.qo = true) (h2 : ¬ P.per ≤ now - P.qt) (h3 : P.tmo ≤ now - P.qt) (h4 : P.qh = false) :
    Calls Try.prog 15 #[.pointer (some ⟨b, 0, none⟩), .int .i64 now, .int .u32 (q : Int), .pointer (some ⟨d, 0, none⟩)] w (TickPost b d (tickP P T now q) w) := by
  have HT := Lib.hid (pbisTime_any now w)
  rw [hnow] at HT
  have HBu := Lib.hid (pbbury_any b d P T now w hP hT hok htk hnow hbd)
  have HBL := Lib.hid hP.lt
  have HDL := Lib.hid hT.lt
  have HBD := Lib.hid hbd
  have hok1 : PbOk (buryP P T now) := hok.buryTo T now 64
  have htk1 : TbOk (mergeB T (goneL P T now)) := mergeB_ok htk (goneTo_fit htk)
  have hn2 := (timeOk_iff now).1 hnow
  have kw : wrap64 (now - P.qt) = now - P.qt := by have := hok.qt; unfold wrap64; omega
  have hA : openP (buryP P T now) (mergeB T (goneL P T now)) now q = helpP (buryP P T now) (mergeB T (goneL P T now)) q := openP_help (P := buryP P T now) h1 h2 h3 h4
  have hK : tickP P T now q = ⟨(buryP P T now).help, mergeB T (goneL P T now), (helpP (buryP P T now) (mergeB T (goneL P T now)) q).o, mergeM T (goneL P T now)⟩ := by
    rw [tickP_eq hA (nextP_no (P := (buryP P T now).help) (T := mergeB T (goneL P T now)) (fun h => by have h5 : P.qo = false := h.1; rw [h1] at h5; cases h5))]
    simp [helpP]
  rw [hK]
  clear hK hA
  have HHe := Lib.hid (fun (u : World) (hu : PbBlk u b (buryP P T now)) (hv : TabBlk u d (mergeB T (goneL P T now))) => pbaskHelp_any b d (buryP P T now) (mergeB T (goneL P T now)) q hq u hu hv hbd)
  have HNl : Hid ((mergeM T (goneL P T now)).length ≤ 64) := Lib.hid (Nat.le_trans (mergeM_len _ _) (goneTo_len P T now 64))
  have b0 : (buryP P T now).per = P.per := rfl
  have b1 : (buryP P T now).tmo = P.tmo := rfl
  have b2 : (buryP P T now).qt = P.qt := rfl
  have b3 : (buryP P T now).qo = P.qo := rfl
  have b4 : (buryP P T now).qh = P.qh := rfl
  have b5 : (buryP P T now).due = P.due := rfl
  generalize mergeM T (goneL P T now) = N1 at *
  generalize mergeB T (goneL P T now) = T1 at *
  generalize buryP P T now = P1 at *
  clear hP hT hok htk hnow hbd hn2 hok1 htk1 hq
  go_enter Try.func15, Try.ntmps15
  go_wp2_with (go_at_call 33; refine HT.out.mono ?_; rintro e w0 ⟨rfl, hw0⟩; obtain rfl := hw0.symm; refine Hid.out ?_)
  refine Lib.hid ?_
  go_wp2_with (go_at_call 34; refine HBu.out.mono ?_; rintro e w1 ⟨a1, n1, c1, rfl, o1, p1, t1, g1⟩; replace o1 := Lib.hid o1; replace p1 := Lib.hid p1; replace t1 := Lib.hid t1; replace g1 := Lib.hid g1; refine Hid.out ?_)
  refine Lib.hid ?_
  clear HBu HT
  try dsimp only at o1 p1 t1
  obtain ⟨c0, c1', c2, c3, c4, c5, c6, c7, c8⟩ := p1.out.at
  rw [b0] at c1'
  rw [b1] at c2
  rw [b2] at c5
  rw [b3, h1] at c6
  rw [b5] at c8
  rw [b4, h4] at c7
  have HH := Lib.hid (HHe.out _ p1.out t1.out)
  clear HHe
  go_wp2_with (go_at_call 36; refine HH.out.mono ?_; rintro e w2 ⟨a2, n2, k2, rfl, o2, p2, g2⟩; replace o2 := Lib.hid o2; replace p2 := Lib.hid p2; replace g2 := Lib.hid g2; refine Hid.out ?_)
  refine Lib.hid ?_
  have hqo : (helpP P1 T1 q).P.qo = true := by show P1.qo = true; rw [b3, h1]
  have d6 := p2.out.at.c6
  rw [hqo] at d6
  clear hqo
  clear c0 c1' c2 c3 c4 c5 c6 c7 c8 HH
  go_wp2
  go_ret2
  have hz := g1.out.size
  refine ⟨_, _, _, _, _, _, rfl, o2.out.base hz, ?_, p2.out, t1.out.kept g2.out (by have := HBD.out; simp; omega), g1.out.trans (Grown2.one g2.out)⟩
  exact (o1.out.turn g2.out HBL.out)
set_option maxRecDepth 20000 in
set_option maxHeartbeats 8000000 in
theorem pbTick_wait (b d : Nat) (P : Pb) (T : Tb) (now : Int) (q : Nat) (_hq : q < 4294967296) (w : World) (hP : PbBlk w b P) (hT : TabBlk w d T) (hok : PbOk P) (htk : TbOk T) (hnow : timeOk now = true) (hbd : b ≠ d) (h1 : P.qo = true) (h2 : ¬ P.per ≤ now - P.qt) (h3 : ¬ P.tmo ≤ now - P.qt) :
    Calls Try.prog 15 #[.pointer (some ⟨b, 0, none⟩), .int .i64 now, .int .u32 (q : Int), .pointer (some ⟨d, 0, none⟩)] w (TickPost b d (tickP P T now q) w) := by
  have HT := Lib.hid (pbisTime_any now w)
  rw [hnow] at HT
  have HBu := Lib.hid (pbbury_any b d P T now w hP hT hok htk hnow hbd)
  have HBL := Lib.hid hP.lt
  have HDL := Lib.hid hT.lt
  have HBD := Lib.hid hbd
  have hok1 : PbOk (buryP P T now) := hok.buryTo T now 64
  have htk1 : TbOk (mergeB T (goneL P T now)) := mergeB_ok htk (goneTo_fit htk)
  have hn2 := (timeOk_iff now).1 hnow
  have kw : wrap64 (now - P.qt) = now - P.qt := by have := hok.qt; unfold wrap64; omega
  have hA : openP (buryP P T now) (mergeB T (goneL P T now)) now q = ⟨buryP P T now, mergeB T (goneL P T now), [], []⟩ := openP_wait (P := buryP P T now) h1 h2 (fun h => h3 h.1)
  have hK : tickP P T now q = ⟨buryP P T now, mergeB T (goneL P T now), [], mergeM T (goneL P T now)⟩ := by
    rw [tickP_eq hA (nextP_no (P := buryP P T now) (T := mergeB T (goneL P T now)) (fun h => by have h5 : P.qo = false := h.1; rw [h1] at h5; cases h5))]
    simp
  rw [hK]
  clear hK hA
  have HNl : Hid ((mergeM T (goneL P T now)).length ≤ 64) := Lib.hid (Nat.le_trans (mergeM_len _ _) (goneTo_len P T now 64))
  have b0 : (buryP P T now).per = P.per := rfl
  have b1 : (buryP P T now).tmo = P.tmo := rfl
  have b2 : (buryP P T now).qt = P.qt := rfl
  have b3 : (buryP P T now).qo = P.qo := rfl
  have b4 : (buryP P T now).qh = P.qh := rfl
  have b5 : (buryP P T now).due = P.due := rfl
  generalize mergeM T (goneL P T now) = N1 at *
  generalize mergeB T (goneL P T now) = T1 at *
  generalize buryP P T now = P1 at *
  clear hP hT hok htk hnow hbd hn2 hok1 htk1 _hq
  go_enter Try.func15, Try.ntmps15
  go_wp2_with (go_at_call 33; refine HT.out.mono ?_; rintro e w0 ⟨rfl, hw0⟩; obtain rfl := hw0.symm; refine Hid.out ?_)
  refine Lib.hid ?_
  go_wp2_with (go_at_call 34; refine HBu.out.mono ?_; rintro e w1 ⟨a1, n1, c1, rfl, o1, p1, t1, g1⟩; replace o1 := Lib.hid o1; replace p1 := Lib.hid p1; replace t1 := Lib.hid t1; replace g1 := Lib.hid g1; refine Hid.out ?_)
  refine Lib.hid ?_
  clear HBu HT
  try dsimp only at o1 p1 t1
  obtain ⟨c0, c1', c2, c3, c4, c5, c6, c7, c8⟩ := p1.out.at
  rw [b0] at c1'
  rw [b1] at c2
  rw [b2] at c5
  rw [b3, h1] at c6
  rw [b5] at c8
  go_wp2
  go_ret2
  exact ⟨_, _, _, _, _, _, rfl, OutsAt.nil _ _, o1.out, p1.out, t1.out, g1.out⟩
set_option maxRecDepth 20000 in
set_option maxHeartbeats 8000000 in
theorem pbTick_late (b d : Nat) (P : Pb) (T : Tb) (now : Int) (q : Nat) (_hq : q < 4294967296) (w : World) (hP : PbBlk w b P) (hT : TabBlk w d T) (hok : PbOk P) (htk : TbOk T) (hnow : timeOk now = true) (hbd : b ≠ d) (h1 : P.qo = true) (h2 : ¬ P.per ≤ now - P.qt) (h3 : P.tmo ≤ now - P.qt) (h4 : P.qh = true) :
    Calls Try.prog 15 #[.pointer (some ⟨b, 0, none⟩), .int .i64 now, .int .u32 (q : Int), .pointer (some ⟨d, 0, none⟩)] w (TickPost b d (tickP P T now q) w) := by
  have HT := Lib.hid (pbisTime_any now w)
  rw [hnow] at HT
  have HBu := Lib.hid (pbbury_any b d P T now w hP hT hok htk hnow hbd)
  have HBL := Lib.hid hP.lt
  have HDL := Lib.hid hT.lt
  have HBD := Lib.hid hbd
  have hok1 : PbOk (buryP P T now) := hok.buryTo T now 64
  have htk1 : TbOk (mergeB T (goneL P T now)) := mergeB_ok htk (goneTo_fit htk)
  have hn2 := (timeOk_iff now).1 hnow
  have kw : wrap64 (now - P.qt) = now - P.qt := by have := hok.qt; unfold wrap64; omega
  have hA : openP (buryP P T now) (mergeB T (goneL P T now)) now q = ⟨buryP P T now, mergeB T (goneL P T now), [], []⟩ := openP_wait (P := buryP P T now) h1 h2 (fun h => by have := h.2.symm.trans h4; cases this)
  have hK : tickP P T now q = ⟨buryP P T now, mergeB T (goneL P T now), [], mergeM T (goneL P T now)⟩ := by
    rw [tickP_eq hA (nextP_no (P := buryP P T now) (T := mergeB T (goneL P T now)) (fun h => by have h5 : P.qo = false := h.1; rw [h1] at h5; cases h5))]
    simp
  rw [hK]
  clear hK hA
  have HNl : Hid ((mergeM T (goneL P T now)).length ≤ 64) := Lib.hid (Nat.le_trans (mergeM_len _ _) (goneTo_len P T now 64))
  have b0 : (buryP P T now).per = P.per := rfl
  have b1 : (buryP P T now).tmo = P.tmo := rfl
  have b2 : (buryP P T now).qt = P.qt := rfl
  have b3 : (buryP P T now).qo = P.qo := rfl
  have b4 : (buryP P T now).qh = P.qh := rfl
  have b5 : (buryP P T now).due = P.due := rfl
  generalize mergeM T (goneL P T now) = N1 at *
  generalize mergeB T (goneL P T now) = T1 at *
  generalize buryP P T now = P1 at *
  clear hP hT hok htk hnow hbd hn2 hok1 htk1 _hq
  go_enter Try.func15, Try.ntmps15
  go_wp2_with (go_at_call 33; refine HT.out.mono ?_; rintro e w0 ⟨rfl, hw0⟩; obtain rfl := hw0.symm; refine Hid.out ?_)
  refine Lib.hid ?_
  go_wp2_with (go_at_call 34; refine HBu.out.mono ?_; rintro e w1 ⟨a1, n1, c1, rfl, o1, p1, t1, g1⟩; replace o1 := Lib.hid o1; replace p1 := Lib.hid p1; replace t1 := Lib.hid t1; replace g1 := Lib.hid g1; refine Hid.out ?_)
  refine Lib.hid ?_
  clear HBu HT
  try dsimp only at o1 p1 t1
  obtain ⟨c0, c1', c2, c3, c4, c5, c6, c7, c8⟩ := p1.out.at
  rw [b0] at c1'
  rw [b1] at c2
  rw [b2] at c5
  rw [b3, h1] at c6
  rw [b5] at c8
  rw [b4, h4] at c7
  go_wp2
  go_ret2
  exact ⟨_, _, _, _, _, _, rfl, OutsAt.nil _ _, o1.out, p1.out, t1.out, g1.out⟩
/-- Tick does what the document says. -/
theorem pbTick_any (b d : Nat) (P : Pb) (T : Tb) (now : Int) (q : Nat) (hq : q < 4294967296) (w : World) (hP : PbBlk w b P) (hT : TabBlk w d T) (hok : PbOk P) (htk : TbOk T) (hbd : b ≠ d) :
    Calls Try.prog 15 #[.pointer (some ⟨b, 0, none⟩), .int .i64 now, .int .u32 (q : Int), .pointer (some ⟨d, 0, none⟩)] w (TickPost b d (tickAny P T now q) w) := by
  cases hn : timeOk now with
  | false =>
    have : tickAny P T now q = ⟨P, T, [], []⟩ := by unfold tickAny; rw [if_neg (by simp [hn])]
    rw [this]
    refine (pbTick_out b d now q w hn).mono ?_
    rintro e w' ⟨rfl, rfl⟩
    exact ⟨_, _, _, _, _, _, rfl, OutsAt.nil _ _, OwnMx.nil _ _, hP, hT, Grown2.refl _ _ _⟩
  | true =>
    have : tickAny P T now q = tickP P T now q := by unfold tickAny; rw [if_pos hn]
    rw [this]
    cases h1 : P.qo with
    | false =>
      by_cases hd : P.due ≤ now
      · exact pbTick_shut_ask b d P T now q hq w hP hT hok htk hn hbd h1 hd
      · exact pbTick_shut_no b d P T now q hq w hP hT hok htk hn hbd h1 hd
    | true =>
      by_cases h2 : P.per ≤ now - P.qt
      · by_cases hd : P.due ≤ now
        · exact pbTick_give_ask b d P T now q hq w hP hT hok htk hn hbd h1 h2 hd
        · exact pbTick_give_no b d P T now q hq w hP hT hok htk hn hbd h1 h2 hd
      · by_cases h3 : P.tmo ≤ now - P.qt
        · cases h4 : P.qh with
          | false => exact pbTick_help b d P T now q hq w hP hT hok htk hn hbd h1 h2 h3 h4
          | true => exact pbTick_late b d P T now q hq w hP hT hok htk hn hbd h1 h2 h3 h4
        · exact pbTick_wait b d P T now q hq w hP hT hok htk hn hbd h1 h2 h3

end Go.Proofs.Ytnoconampcemoaa
