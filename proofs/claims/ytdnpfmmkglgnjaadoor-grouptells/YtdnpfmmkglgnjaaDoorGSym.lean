/-
  What the library's symMerge does at a row of keyed alerts: two rising rows, put into one.
-/
import Derived.Test.YtdnpfmmkglgnjaaDoorGSymA
import Derived.Test.YtdnpfmmkglgnjaaDoorGSymB
namespace Go.Proofs.YtdnpfmmkglgnjaaDoor
open Go.Shelf Go.RowKit Go.Lib Go.Sort
variable {P : Program} {α : Type} [Inhabited α]

set_option maxHeartbeats 1000000 in
/-- Two rising rows, put into one. -/
theorem kSym_any (FW : P.funcs[91]? = some Tryd.f91) (FR : P.funcs[80]? = some Tryd.f80) (e91 : ∀ args w, (callFunc 91 args).run P w = .ok (.enter 91 args) w) (e80 : ∀ args w, (callFunc 80 args).run P w = .ok (.enter 80 args) w) (e68 : ∀ args w, (callFunc 68 args).run P w = .ok (.enter 68 args) w) (L : StabT P) (FG : P.funcs[68]? = some Tryd.f68)
    (k : Nat) (aE : ∀ w, (isAgg 63).run P w = .ok true w) (zE : ∀ w, (Go.sizeOf 63).run P w = .ok k w) (enc : α → List Value) (cf : α → α → Int) (g : Nat) (cb : Array Value) (blk off cap : Nat) (d0 : Array α) (w0 : World)
    (eg : ∀ args w, (callFunc g args).run P w = .ok (.enter g args) w) (hcmp : CmpLays P g cb enc k cf blk off d0.size w0) (R : RowK enc k w0 blk off d0) (hsz : d0.size < 4611686018427387904) (LL : α → α → Prop) (tr : ∀ x y z, LL x y → LL y z → LL x z) :
    ∀ (N a m b : Nat) (dk : Array α) (w : World), b - a ≤ N → dk.size = d0.size → SWK enc k w0 blk off dk w → a < m → m < b → b ≤ d0.size → TwoL (ltOf cf) LL a m b dk →
    Calls P 68 #[.slice (some ⟨blk, off, none⟩) d0.size cap, .int .i64 a, .int .i64 m, .int .i64 b, .func (.func g) #[] cb] w fun e w' => e = .returned (.tuple #[]) ∧ ∃ d', SWK enc k w0 blk off d' w' ∧ PermIn a b dk d' ∧ SortL LL a b d'
  | 0, a, m, b, dk, w, hN, _, _, ham, hmb, _, _ => by omega
  | N + 1, a, m, b, dk, w, hN, hds, S, ham, hmb, hb, hT => by
    by_cases c1 : m = a + 1
    · exact kSym_left L FG k aE zE enc cf g cb blk off cap d0 w0 eg hcmp R hsz LL tr a b dk w hds S (by omega) hb (by rw [← c1]; exact hT) m c1
    · by_cases c2 : b = m + 1
      · exact kSym_right L FG k aE zE enc cf g cb blk off cap d0 w0 eg hcmp R hsz LL tr a m dk w hds S (by omega) (by rw [← c2]; exact hT) b c2 hb
      · by_cases c3 : (a + b) / 2 < m
        · exact kSym_great FW FR e91 e80 e68 L FG k aE zE enc cf g cb blk off cap d0 w0 eg hcmp R hsz LL tr N (kSym_any FW FR e91 e80 e68 L FG k aE zE enc cf g cb blk off cap d0 w0 eg hcmp R hsz LL tr N) a m b _ dk w hN hds S (by omega) (by omega) hb hT rfl c3
        · exact kSym_small FW FR e91 e80 e68 L FG k aE zE enc cf g cb blk off cap d0 w0 eg hcmp R hsz LL tr N (kSym_any FW FR e91 e80 e68 L FG k aE zE enc cf g cb blk off cap d0 w0 eg hcmp R hsz LL tr N) a m b _ dk w hN hds S (by omega) (by omega) hb hT rfl (by omega)

end Go.Proofs.YtdnpfmmkglgnjaaDoor
