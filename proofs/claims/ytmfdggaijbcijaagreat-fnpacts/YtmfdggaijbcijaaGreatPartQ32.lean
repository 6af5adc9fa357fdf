/- Texts of mine put together (a claim holds at most 60 files): Nums. -/

/- Nums -/
section
/- Plain arithmetic of chapter 1 (numbers): what each function answers, as plain functions on integers. No condition. -/
namespace Go.Proofs.YtmfdggaijbcijaaGreat.Nums

def apC (a b : Int) : Int := if a < 0 ∨ 1000000 < a ∨ b < -1000000 ∨ 1000000 < b then 3 else if a + b < 0 then 10 else if 1000000 < a + b then 7 else 0
def apV (a b : Int) : Int := if apC a b = 0 then a + b else 0

def nsC (s : Int) : Int := if s < 1 ∨ 2147483646 < s then 3 else 0
def nsV (s : Int) : Int := if s < 1 ∨ 2147483646 < s then 0 else 48271 * s % 2147483647

def roC (s n : Int) : Int := if s < 1 ∨ 2147483646 < s ∨ n < 1 ∨ 1000 < n then 3 else 0
def roV (s n : Int) : Int := if s < 1 ∨ 2147483646 < s ∨ n < 1 ∨ 1000 < n then 0 else (48271 * s % 2147483647) % n

/- a tile: both numbers 0 to 11 -/
def tileB (x y : Int) : Bool := decide (0 ≤ x) && decide (x ≤ 11) && decide (0 ≤ y) && decide (y ≤ 11)
def gap (a b : Int) : Int := if a < b then b - a else a - b
def near (a b : Int) : Int := if a < b then a + 1 else if b < a then a - 1 else a
def mx (a b : Int) : Int := if b < a then a else b
def faC (x1 y1 x2 y2 : Int) : Int := if (tileB x1 y1 && tileB x2 y2) = true then 0 else 3
def faV (x1 y1 x2 y2 : Int) : Int := if (tileB x1 y1 && tileB x2 y2) = true then mx (gap x1 x2) (gap y1 y2) else 0
def stX (x1 y1 x2 y2 : Int) : Int := if (tileB x1 y1 && tileB x2 y2) = true then near x1 x2 else 0
def stY (x1 y1 x2 y2 : Int) : Int := if (tileB x1 y1 && tileB x2 y2) = true then near y1 y2 else 0

end Go.Proofs.YtmfdggaijbcijaaGreat.Nums
end
