import Derived.Test.YtldkecjfjcnkfaaGh
namespace Go.Proofs.Ytldkecjfjcnkfaa
open Go.RowKit Go.Deep
/-- whether a wish is good, as the program tells it -/
def GoodP (ns : List (ByteArray × Int)) (sz qu : Int) (ag : ByteArray) (es : List PE) (r : Bool) : Prop :=
  (wsB ns sz qu es = false ∧ r = false) ∨ (wsB ns sz qu es = true ∧ ∃ yv es', LD es (ownP ns sz qu ag yv) es' ∧ r = (wk (tG es') 0 == 0))
theorem wishDict46 (na ma : Option Addr) (nc mc : Nat) (ns : List (ByteArray × Int)) (sz qu : Int) (ag : ByteArray) (es : List PE) (w : World) (hn : RNs w (.slice na ns.length nc) ns) (hm : RG w.heap.size w (.slice ma es.length mc) es) (hl : ns.length + es.length ≤ 2147483000)
    (hkn : ∀ x ∈ ns, x.1.size ≤ 140737488351232) (hka : ag.size ≤ 140737488351232) (hke : ∀ e ∈ es, e.key.size ≤ 140737488351232 ∧ e.t.ok) :
    Calls Try.prog 46 #[.agg #[.slice na ns.length nc, .int .i64 sz, .int .i64 qu, .string ag, .slice ma es.length mc]] w fun e w' => ∃ (k : Int) (va : Option Addr) (vn vc : Nat) (r : Bool), e = .returned (.tuple #[.agg #[.int .i64 k, .int .i64 0, .string ⟨#[]⟩, .slice none 0 0, .slice va vn vc], .bool r]) ∧ GoodP ns sz qu ag es r ∧ Below w.heap.size w w' := by
  cases hb : wsB ns sz qu es with
  | false =>
    refine (wishDict_no na ma nc mc ns sz qu ag es w hn hm hl hb).mono ?_
    rintro e w' ⟨rfl, b⟩
    exact ⟨0, _, _, _, false, rfl, .inl ⟨hb, rfl⟩, b⟩
  | true =>
    refine (wishDict_yes na ma nc mc ns sz qu ag es w hn hm hl hb hkn hka hke).mono ?_
    rintro e w' ⟨yv, v', es', rfl, hld, hrv, b⟩
    obtain ⟨_, a, c, rfl, _⟩ := hrv
    exact ⟨4, _, _, _, _, rfl, .inr ⟨hb, yv, es', hld, rfl⟩, b⟩
set_option maxHeartbeats 2000000 in
theorem isGood33 (na ma : Option Addr) (nc mc : Nat) (ns : List (ByteArray × Int)) (sz qu : Int) (ag : ByteArray) (es : List PE) (w : World) (hn : RNs w (.slice na ns.length nc) ns) (hm : RG w.heap.size w (.slice ma es.length mc) es) (hl : ns.length + es.length ≤ 2147483000)
    (hkn : ∀ x ∈ ns, x.1.size ≤ 140737488351232) (hka : ag.size ≤ 140737488351232) (hke : ∀ e ∈ es, e.key.size ≤ 140737488351232 ∧ e.t.ok) :
    Calls Try.prog 33 #[.agg #[.slice na ns.length nc, .int .i64 sz, .int .i64 qu, .string ag, .slice ma es.length mc]] w fun e w' => ∃ r : Bool, e = .returned (.bool r) ∧ GoodP ns sz qu ag es r ∧ Below w.heap.size w w' := by
  have b0 : Below w.heap.size w (w.alloc (.cells #[.slice na ns.length nc, .int .i64 sz, .int .i64 qu, .string ag, .slice ma es.length mc] 35)) := (Below.refl _ _).alloc (Nat.le_refl _) _
  have HC := Lib.hid (wishDict46 na ma nc mc ns sz qu ag es (w.alloc (.cells #[.slice na ns.length nc, .int .i64 sz, .int .i64 qu, .string ag, .slice ma es.length mc] 35)) (hn.keep b0) ((hm.keep b0).mono b0.size) hl hkn hka hke)
  have HB : Hid (Below w.heap.size w (w.alloc (.cells #[.slice na ns.length nc, .int .i64 sz, .int .i64 qu, .string ag, .slice ma es.length mc] 35))) := b0
  clear b0 hn hm hkn hka hke
  go_enter Try.func33, Try.ntmps33
  go_wp2_with fail
  refine HC.out.mono ?_
  rintro e w1 ⟨k, va, vn, vc, r, rfl, hg, b1⟩
  have H1 : Hid (GoodP ns sz qu ag es r ∧ ∀ o, Below w.heap.size w (w1.alloc o)) := ⟨hg, fun o => by
    have h9 := HB.out.trans (b1.mono HB.out.size)
    exact h9.alloc h9.size _⟩
  clear hg b1 HC HB
  go_wp2
  go_ret
  exact ⟨r, rfl, H1.out.1, H1.out.2 _⟩
end Go.Proofs.Ytldkecjfjcnkfaa
