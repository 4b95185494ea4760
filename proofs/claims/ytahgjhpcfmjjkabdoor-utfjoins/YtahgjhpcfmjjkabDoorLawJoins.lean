/-
  The law UtfJoins: true, for all ints and all bytes.
-/
import Derived.Test.YtahgjhpcfmjjkabDoorHelp2
import Derived.Laws.AppendOwnNone
namespace Go.Proofs.YtahgjhpcfmjjkabDoor
open Go.RowKit
set_option linter.unusedVariables false

/-- What is appended: nothing, of a nil slice; or the cells news. -/
def SrcIs (w : World) (x : Value) (m : Nat) (news : List Value) : Prop :=
  (x = .slice none 0 0 ∧ m = 0 ∧ news = []) ∨ ∃ ad c, x = .slice (some ad) m c ∧ news.length = m ∧ (∀ j u, news[j]? = some u → w.cell? (ad.add j) = some u) ∧ ∀ u ∈ news, u.oneCell' = true

theorem SrcIs.below {w w' : World} {x : Value} {m : Nat} {news : List Value} (h : SrcIs w x m news) (hb : Below w.heap.size w w') : SrcIs w' x m news := by
  rcases h with h | ⟨ad, c, e, hl, hc, h1⟩
  · exact .inl h
  · refine .inr ⟨ad, c, e, hl, fun j u hj => ?_, h1⟩
    have := hc j u hj
    rw [hb.cell (cell_some_lt this)]
    exact this

theorem src_of_row {w : World} {base e : Nat} {v : Value} {n : Nat} {xs : List Value} (h : w.ownsRow base e 1 v n xs) (h1 : ∀ u ∈ xs, u.oneCell' = true) : SrcIs w v n xs := by
  have hl := h.1
  rcases h.2 with ⟨rfl, h0⟩ | ⟨g, cap, cur, rfl, hb, hg, hc, hm, hs, ht⟩
  · subst h0
    exact .inl ⟨rfl, rfl, List.length_eq_zero_iff.1 (by simpa using hl)⟩
  · exact .inr ⟨⟨g, 0, none⟩, cap, rfl, by simpa using hl, fun j u hj => h.cells (g := g) rfl j u hj, h1⟩

theorem src_of_arg {k : IntKind} {w : World} {a : Option Addr} {len cap : Nat} {zs : List Int} (h : IsRow k w a len cap zs) : SrcIs w (.slice a len cap) len ((zs.take len).map (Value.int k)) := by
  rcases h with ⟨rfl, rfl, rfl, rfl⟩ | ⟨x, rfl, hl, hm, hz, hc, hw⟩
  · exact .inl ⟨rfl, rfl, rfl⟩
  · refine .inr ⟨x, cap, rfl, by simp; omega, fun j u hj => ?_, fun u hu => by
      obtain ⟨n, _, rfl⟩ := List.mem_map.1 hu
      rfl⟩
    have hlt : j < len := by
      rcases Nat.lt_or_ge j len with q | q
      · exact q
      · rw [List.getElem?_eq_none (by simp; omega)] at hj; cases hj
    rw [hc j (by omega)]
    simp only [List.getElem?_map, List.getElem?_take, hlt, if_true, List.getElem?_eq_getElem (show j < zs.length by omega), Option.map_some, Option.some.injEq] at hj
    simp [List.getD, List.getElem?_eq_getElem (show j < zs.length by omega), hj]

theorem wpList_append_src {P : Program} (w : World) {ops : Array Oper} {rest : List Oper} {o : Oper} {a : Act} {Q : Exit → Act → World → Prop} (hgd : o.guard = none) (s x : Operand) (t : TypeId)
    (ho : o.op = .call { callee := .builtin .append, args := #[s, x], argTypes := #[t, t] })
    (base : Nat) (e : TypeId) (i : TypeInfo) (z : Value) (bytes : Nat) (ht : P.underlying t = some (.slice e)) (hi : P.info? e = some i) (hz : i.zero = some z)
    (hsize : i.size = 1) (hby : i.bytes = bytes) (hzs : z.cells.size = 1)
    (v : Value) (n : Nat) (xs : List Value) (hs : a.eval s = v) (hown : w.ownsRow base e 1 v n xs) (y : Value) (hx : a.eval x = y)
    (m : Nat) (news : List Value) (hsrc : SrcIs w y m news) (h63 : n + m ≤ maxLen) (hbytes : (n + m) * bytes ≤ 140737488355328) (hbase : base ≤ w.heap.size)
    (h : ∀ v' w', w'.ownsRow base e 1 v' (n + m) (xs ++ news) → w.grownBy w' v.ownBlock → wpList P ops Q rest (a.put o.dst v') w') : wpList P ops Q (o :: rest) a w := by
  subst hx
  rcases hsrc with ⟨hx, rfl, rfl⟩ | ⟨ad, c, hx, hl, hc, h1⟩
  · refine wpList_append_own_none hgd s x t ho base e i 1 ht hi v n xs hs hown hx ?_
    refine h v w (by simpa using hown) ⟨rfl, rfl, rfl, Nat.le_refl _, fun _ _ _ => rfl⟩
  · exact wpList_append_own w hgd s x t ho base e i z 1 bytes ht hi hz hsize hby hzs (by decide) v n xs hs hown ad m c news hx (by simpa using hl) hc h1 h63 hbytes hbase fun v' w' h2 h3 _ => h v' w' h2 h3

/-- A slice literal without elements. -/
theorem owns_empty (w : World) (base e : Nat) (hb : base ≤ w.heap.size) : (w.alloc (.cells #[] e)).ownsRow base e 1 (.slice (some ⟨w.heap.size, 0, none⟩) 0 0) 0 [] :=
  ⟨rfl, .inr ⟨w.heap.size, 0, #[], rfl, hb, heap_new' w _, Nat.le_refl _, by unfold maxLen; omega, rfl, rfl⟩⟩

theorem bytes_take {w : World} {a : Option Addr} {len cap : Nat} {zs : List Int} (h : IsRow .u8 w a len cap zs) : (zs.take len).length = len ∧ Byt (zs.take len) ∧ BytesAt w.heap.size w (.slice a len cap) (zs.take len) := by
  have hb : Byt zs := by
    rcases h with ⟨_, _, _, rfl⟩ | ⟨x, _, _, _, _, _, hw⟩
    · intro c hc; cases hc
    · intro c hc
      have := hw c hc
      simpa [Lit.wf, IntKind.min, IntKind.max, IntKind.signed, IntKind.bits] using this
  obtain ⟨h1, h2, h3⟩ := h.take
  refine ⟨h1, byt_take hb len, ?_⟩
  rcases h3 with ⟨q1, q2⟩ | ⟨b, off, rfl, hlt, hc⟩
  · exact .inl ⟨a, cap, by rw [q2], q1⟩
  · exact .inr ⟨b, off, cap, by rw [h1], by omega, hlt, fun j hj => hc j (by omega)⟩
theorem ints_take {w : World} {a : Option Addr} {len cap : Nat} {zs : List Int} (h : IsRow .i64 w a len cap zs) : (zs.take len).length = len ∧ IntsIn w (.slice a len cap) (zs.take len) := by
  obtain ⟨h1, h2, h3⟩ := h.take
  refine ⟨h1, a, cap, by rw [h1], by omega, fun i hi => ?_⟩
  rcases h3 with ⟨q1, q2⟩ | ⟨b, off, rfl, hlt, hc⟩
  · omega
  · exact ⟨b, off, rfl, hlt, hc i (by omega)⟩
theorem one_ints (k : IntKind) (l : List Int) : ∀ u ∈ l.map (Value.int k), u.oneCell' = true := fun u hu => by
  obtain ⟨n, _, rfl⟩ := List.mem_map.1 hu
  rfl

set_option maxHeartbeats 2000000 in
theorem utfJoins_any (b : Option Addr) (len2 cap2 : Nat) (ys : List Int) (a : Option Addr) (len cap : Nat) (zs : List Int) (w : World) (hy : IsRow .i64 w b len2 cap2 ys) (hz : IsRow .u8 w a len cap zs) (hm : Marks w) (h1 : 1 ≤ w.heap.size) :
    Calls Tryd.prog 3 #[.slice b len2 cap2, .slice a len cap] w fun e w' => e = .returned (.bool true) ∧ Below w.heap.size w w' := by
  obtain ⟨iB, hiB, hzB0, hzB1, hzB2⟩ := info_parts Tryd.infoByte
  obtain ⟨iI, hiI, hzI0, hzI1, hzI2⟩ := info_parts Tryd.infoInt
  obtain ⟨hl, hby, hI⟩ := bytes_take hz
  obtain ⟨hr, hJ⟩ := ints_take hy
  have hsB := src_of_arg hz
  have hsI := src_of_arg hy
  obtain ⟨l, hld⟩ : ∃ l, l = zs.take len := ⟨_, rfl⟩
  obtain ⟨r, hrd⟩ : ∃ r, r = ys.take len2 := ⟨_, rfl⟩
  rw [← hld] at hl hby hI hsB
  rw [← hrd] at hr hJ hsI
  clear hld hrd
  by_cases hlen2 : len2 ≤ 1000
  · have h6 : (len2 : Int) ≤ 1000 := by omega
    by_cases hlen : len ≤ 3000
    · have h5 : (len : Int) ≤ 3000 := by omega
      go_enter Tryd.func3, Tryd.ntmps3
      go_wp2_with fail
      refine (awake_any w hm h1).mono ?_
      rintro e w1 ⟨rfl, hB1⟩
      have hs1 := hB1.size
      go_wp2_with fail
      refine (text_any r (by omega) _ w1 (hm.below hB1 h1) (by omega) (hJ.below hB1)).mono ?_
      rintro e w2 ⟨v2, rfl, ho2, hB2⟩
      have hs2 := hB2.size
      have hB12 : Below w.heap.size w w2 := hB1.trans (hB2.mono hs1)
      by_cases hall : allR r = true
      · have e1 : textE r = 0 := by simp [textE, hall]
        have e2 : textT r = textL r := by simp [textT, hall]
        rw [e2] at ho2
        rw [e1]
        have htl := textL_le r
        have hrows := (World.ownsRow.alloc ho2 (.cells #[] 5))
        have hs0 := src_of_row hrows (one_ints .u8 (textL r))
        have hown0 := owns_empty w2 w2.heap.size 5 (Nat.le_refl _)
        have HS0 : Hid (SrcIs (w2.alloc (.cells #[] 5)) v2 (textL r).length ((textL r).map (Value.int .u8))) := hs0
        have HSB : Hid (SrcIs w (.slice a len cap) len (l.map (Value.int .u8))) := hsB
        have HSI : Hid (SrcIs w (.slice b len2 cap2) len2 (r.map (Value.int .i64))) := hsI
        have HAll : Hid (allR r = true) := hall
        have hB2e : Below w.heap.size w (w2.alloc (.cells #[] 5)) := hB12.alloc (by omega) _
        clear hrows hs0 hsB hsI hall e1 e2 ho2
        go_wp2_with (first | (at_builtin; refine wpList_append_src _ rfl (.tmp 32) (.tmp 33) 23 rfl w2.heap.size 5 iB (.int .u8 0) 1 Tryd.underlying23 hiB hzB0 hzB1 hzB2 rfl _ _ _ rfl hown0 _ rfl (textL r).length _ HS0.out (by unfold maxLen; omega) (by omega) (by simp) ?_; intro v3 w3 ho3 hg3; have hB3 : Below w2.heap.size w2 w3 := ((Below.refl _ w2).alloc (Nat.le_refl _) _).grown hg3 (by simp) (fun j e => (hown0.lt j e).1); have hs3 := hB3.size; have hsrc2 := HSB.out.below (hB12.trans (hB3.mono (by omega)))) | (at_builtin; refine wpList_append_src _ rfl (.tmp 34) (.tmp 35) 23 rfl w2.heap.size 5 iB (.int .u8 0) 1 Tryd.underlying23 hiB hzB0 hzB1 hzB2 rfl _ _ _ rfl ho3 _ rfl len _ hsrc2 (by unfold maxLen; omega) (by omega) (by omega) ?_; intro v4 w4 ho4 hg4))
        have hB4 : Below w2.heap.size w2 w4 := hB3.grown (show w3.grownBy w4 v3.ownBlock from hg4) (by omega) (fun j e => (ho3.lt j e).1)
        have hs4 := hB4.size
        have hB14 : Below w.heap.size w w4 := hB12.trans (hB4.mono (by omega))
        have hT4 : Told w4 w2.heap.size v4 (textL r ++ l) := by
          have : w4.ownsRow w2.heap.size 5 1 v4 (0 + (textL r).length + len) ([] ++ (textL r).map (Value.int .u8) ++ l.map (Value.int .u8)) := ho4
          have e : (textL r ++ l).length = 0 + (textL r).length + len := by rw [List.length_append, hl]; omega
          unfold Told
          rw [e]
          simpa using this
        obtain ⟨a4, c4, rfl, hI4⟩ := hT4.form
        have hby4 : Byt (textL r ++ l) := fun c hc => (List.mem_append.1 hc).elim (byt_text HAll.out c) (hby c)
        have hle4 : (textL r ++ l).length ≤ 10000 := by rw [List.length_append]; omega
        have HI : Hid (BytesAt w.heap.size w (.slice a len cap) l) := hI
        clear hT4 ho3 ho4 hg3 hg4 hsrc2 hown0 hB2e hI hm
        refine (runes_any (textL r ++ l) hby4 hle4 a4 _ c4 w4 hI4).mono ?_
        rintro e w5 ⟨v5, us, rfl, hr5, ho5, hB5⟩
        have hs5 := hB5.size
        have hB15 : Below w.heap.size w w5 := hB14.trans (hB5.mono (by omega))
        have hi5 := ints_of_runes ho5
        have hsrc3 := HSI.out.below (hB15.alloc (by omega) (.cells #[] 3))
        have hown5 := owns_empty w5 w5.heap.size 3 (Nat.le_refl _)
        have HI5 : Hid (IntsIn w5 v5 (us.map U.r)) := hi5
        have HR5 : Hid (Run (textL r ++ l) 0 us (textL r ++ l).length) := hr5
        clear hi5 hr5 ho5 hI4 hby4 hB4 hB5
        go_wp2_with (at_builtin; refine wpList_append_src _ rfl (.tmp 39) (.tmp 40) 22 rfl w5.heap.size 3 iI (.int .i64 0) 8 Tryd.underlying22 hiI hzI0 hzI1 hzI2 rfl _ _ _ rfl hown5 _ rfl len2 _ hsrc3 (by unfold maxLen; omega) (by omega) (by simp) ?_; intro v6 w6 ho6 hg6)
        have hB6 : Below w5.heap.size w5 w6 := ((Below.refl _ w5).alloc (Nat.le_refl _) _).grown hg6 (by simp) (fun j e => (hown5.lt j e).1)
        have hs6 := hB6.size
        have hB16 : Below w.heap.size w w6 := hB15.trans (hB6.mono (by omega))
        have hI6 : BytesAt w6.heap.size w6 (.slice a len cap) l := HI.out.later hB16
        clear hg6 hsrc3 hown5
        refine (runes_any l hby (by omega) a len cap w6 hI6).mono ?_
        rintro e w7 ⟨v7, vs, rfl, hr7, ho7, hB7⟩
        have hs7 := hB7.size
        have hvl := Run.le hr7 (Nat.zero_le _)
        have ho67 := ownsRow_below ho6 hB7
        have hs77 : SrcIs w7 v7 vs.length (runesV vs) := src_of_row ho7 (one_ints .i64 _)
        have HR7 : Hid (Run l 0 vs l.length) := hr7
        clear hr7 hI6 ho6
        go_wp2_with (at_builtin; refine wpList_append_src _ rfl (.tmp 41) (.tmp 43) 22 rfl w5.heap.size 3 iI (.int .i64 0) 8 Tryd.underlying22 hiI hzI0 hzI1 hzI2 rfl _ _ _ rfl ho67 _ rfl vs.length _ hs77 (by unfold maxLen; omega) (by omega) (by omega) ?_; intro v8 w8 ho8 hg8)
        have hB8 : Below w5.heap.size w5 w8 := (hB6.trans (hB7.mono (by omega))).grown (show w7.grownBy w8 v6.ownBlock from hg8) (by omega) (fun j e => (ho67.lt j e).1)
        have hs8 := hB8.size
        have hB18 : Below w.heap.size w w8 := hB15.trans (hB8.mono (by omega))
        have hjn : us.map U.r = r ++ vs.map U.r := Run.joined r l (allR_mem HAll.out) HR5.out HR7.out
        have hi8 : IntsIn w8 v8 (us.map U.r) := by
          rw [hjn]
          refine ints_of_row (base := w5.heap.size) ?_
          have : w8.ownsRow w5.heap.size 3 1 v8 (0 + len2 + vs.length) ([] ++ r.map (Value.int .i64) ++ runesV vs) := ho8
          have e : (r ++ vs.map U.r).length = 0 + len2 + vs.length := by simp [hr]
          rw [e]
          simpa [runesV] using this
        have hul : (us.map U.r).length ≤ 10000 := by
          have := Run.le HR5.out (Nat.zero_le _)
          simp; omega
        have HI58 := HI5.out.below hB8
        clear hjn ho8 hg8 hs77 ho67 ho7
        refine (sameInts_any (us.map U.r) hul v5 v8 w8 HI58 hi8).mono ?_
        rintro e w9 ⟨rfl, hB9⟩
        have hBz : Below w.heap.size w w9 := hB18.trans (hB9.mono (by omega))
        clear hi8 HI58 hB9
        go_wp2
        go_ret
        exact ⟨rfl, hBz⟩
      · have e1 : textE r = 1 := by simp [textE, hall]
        rw [e1]
        clear ho2 hJ hm hall e1 hI
        go_wp2
        go_ret
        exact ⟨rfl, hB12⟩
    · have h5 : ¬ (len : Int) ≤ 3000 := by omega
      go_enter Tryd.func3, Tryd.ntmps3
      go_wp2_with fail
      refine (awake_any w hm h1).mono ?_
      rintro e w1 ⟨rfl, hB1⟩
      clear hI hJ
      go_wp2
      go_ret
      exact ⟨rfl, hB1⟩
  · have h6 : ¬ (len2 : Int) ≤ 1000 := by omega
    go_enter Tryd.func3, Tryd.ntmps3
    go_wp2_with fail
    refine (awake_any w hm h1).mono ?_
    rintro e w1 ⟨rfl, hB1⟩
    clear hI hJ
    go_wp2
    go_ret
    exact ⟨rfl, hB1⟩
end Go.Proofs.YtahgjhpcfmjjkabDoor
